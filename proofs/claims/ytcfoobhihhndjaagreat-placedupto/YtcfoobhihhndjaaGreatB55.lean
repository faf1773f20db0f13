import Derived.Test.YtcfoobhihhndjaaGreatB37
import Derived.Test.YtcfoobhihhndjaaGreatB39
import Derived.Test.YtcfoobhihhndjaaGreatB40
import Derived.Test.YtcfoobhihhndjaaGreatB46
import Derived.Test.YtcfoobhihhndjaaGreatB47
import Derived.Test.YtcfoobhihhndjaaGreatB48
import Derived.Test.YtcfoobhihhndjaaGreatB49
import Derived.Test.YtcfoobhihhndjaaGreatB51
import Derived.Test.YtcfoobhihhndjaaGreatB54
import Derived.Test.YtcfoobhihhndjaaGreatB38
namespace Go.Proofs.YtcfoobhihhndjaaGreat

section
open Go.RowKit Go.Sort

set_option maxRecDepth 100000 in
set_option maxHeartbeats 1000000 in
theorem rbook_no (w:World) (L:RL) (r:Rm) (h g:Int) (R:RRep w L r) (hE:rbookE r h g≠0) :
    Calls Tryz.prog 54 #[.pointer (some ⟨L.c,0,none⟩),.int .i64 h,.int .i64 g] w fun e w'=>e = .returned (.tuple #[.slice none 0 0,.slice none 0 0,.int .i64 (rbookE r h g)])∧w'=w:=by
  have HH:=hide (hall_b L.c r.H (some ⟨L.rb,0,none⟩) L.rcap h w R.c.cR.cell)
  have HG:=hide (good_b L.c r.G g w R.c.cG.cell)
  clear R
  by_cases h1:okI r.H h
  · have f1:inB r.H h=true:=by simpa [inB] using h1
    have h2:¬ okI r.G g:=fun f=>hE (by unfold rbookE;rw [if_pos h1,if_pos f])
    have f2:inB r.G g=false:=by simpa [inB] using h2
    have HE:Hid (rbookE r h g=4):=hide (by unfold rbookE;rw [if_pos h1,if_neg h2])
    rw [f1] at HH
    rw [f2] at HG
    clear hE h1 h2 f1 f2
    go_enter Tryz.func54,Tryz.ntmps54
    go_wp2_with (first | (go_at_call 91;refine HH.out.mono ?_;rintro e w1 ⟨rfl,rfl⟩) | (go_at_call 104;refine HG.out.mono ?_;rintro e w1 ⟨rfl,rfl⟩))
    exact bodyPost_ret (v:=.tuple #[.slice none 0 0,.slice none 0 0,.int .i64 4]) (by simp [results,Tryz.results54,go_sem]) rfl ⟨by rw [HE.out],rfl⟩
  · have f1:inB r.H h=false:=by simpa [inB] using h1
    have HE:Hid (rbookE r h g=3):=hide (by unfold rbookE;rw [if_neg h1])
    rw [f1] at HH
    clear hE h1 f1
    go_enter Tryz.func54,Tryz.ntmps54
    go_wp2_with (first | (go_at_call 91;refine HH.out.mono ?_;rintro e w1 ⟨rfl,rfl⟩) | (go_at_call 104;refine HG.out.mono ?_;rintro e w1 ⟨rfl,rfl⟩))
    exact bodyPost_ret (v:=.tuple #[.slice none 0 0,.slice none 0 0,.int .i64 3]) (by simp [results,Tryz.results54,go_sem]) rfl ⟨by rw [HE.out],rfl⟩

def RBookPost (w:World) (r:Rm) (h g:Nat) (e:Ending) (w':World):Prop :=
  ∃ v u,e = .returned (.tuple #[v,u,.int .i64 0])∧w'.ownsRow w.heap.size 72 3 v (rlv h g 0 r.wt r.wt.length []).length (lvCells (rlv h g 0 r.wt r.wt.length []))∧w'.ownsRow w.heap.size 72 3 u (rlv h g 1 r.wt r.wt.length []).length (lvCells (rlv h g 1 r.wt r.wt.length []))∧Kep non w w'

set_option maxRecDepth 100000 in
set_option maxHeartbeats 1000000 in
theorem rbook_yes (w:World) (L:RL) (r:Rm) (K:Int) (h g:Nat) (R:RRep w L r) (ok:r.Ok K) (hh:h<r.H) (hg:g<r.G) :
    Calls Tryz.prog 54 #[.pointer (some ⟨L.c,0,none⟩),.int .i64 h,.int .i64 g] w (RBookPost w r h g):=by
  have f1:inB r.H (h:Int)=true:=by simp only [inB,okI,decide_eq_true_eq];omega
  have f2:inB r.G (g:Int)=true:=by simp only [inB,okI,decide_eq_true_eq];omega
  have HH:=hide (hall_b L.c r.H (some ⟨L.rb,0,none⟩) L.rcap h w R.c.cR.cell)
  have HG:=hide (good_b L.c r.G g w R.c.cG.cell)
  rw [f1] at HH
  rw [f2] at HG
  have H0:=hide (rlevels_0 w L r K R ok h g)
  have H1:=hide (fun W (k:Kep non w W)=>rlevels_1 W L r K (R.later k) ok h g)
  clear R ok f1 f2
  go_enter Tryz.func54,Tryz.ntmps54
  go_upto_region 7 with (first | (go_at_call 91;refine HH.out.mono ?_;rintro e w1 ⟨rfl,rfl⟩) | (go_at_call 104;refine HG.out.mono ?_;rintro e w1 ⟨rfl,rfl⟩))
  clear HH HG
  go_wp2_with fail
  refine H0.out.mono ?_
  rintro e w2 ⟨v,rfl,o1,k1⟩
  clear H0
  go_wp2_with fail
  refine (H1.out _ k1).mono ?_
  rintro e w3 ⟨u,rfl,o2,k2⟩
  clear H1
  go_wp2
  exact bodyPost_ret (v:=.tuple #[v,u,.int .i64 0]) (by simp [results,Tryz.results54,go_sem]) rfl ⟨v,u,rfl,ownsRow_kep o1 k2 (fun _ _ q=>q),ownsRow_mono o2 k1.size,k1.trans k2⟩
end

section
open Go.RowKit

def OutOf (B0 p:Nat) (s:Sta) (w:World) (v:Value):Prop:=∀ b,v.ownBlock=some b→B0≤b∧b<w.heap.size∧¬ s.dd b∧∀ ix,¬ s.F p ix b
theorem OutOf.later {B0 p:Nat} {s:Sta} {w W:World} {v:Value} (h:OutOf B0 p s w v) (k:Kep non w W):OutOf B0 p s W v:=fun b hb=>⟨(h b hb).1,Nat.lt_of_lt_of_le (h b hb).2.1 k.size,(h b hb).2.2⟩

structure LaysTo (B0 p:Nat) (K:Int) (s:Sta) (w:World) (v:Value) (s':Sta) (w':World):Prop where
  st:Stands B0 p K s' w'
  go:Goes B0 0 0 1 s w s' w'
  dd:∀ b,s'.dd b→s.dd b∨v.ownBlock=some b∨w.heap.size≤b
  fo:∀ ix b,s'.F p ix b→s.F p ix b∨w.heap.size≤b
  kp:Kep (fun b=>v.ownBlock=some b∨∃ ix,s.F p ix b) w w'

theorem lay_trades_at {B0 p:Nat} {K:Int} {s:Sta} {w:World} (h:Stands B0 p K s w) (v:Value) (n c:Nat) (hl:LRow w v 6 n c) (hn:n≤1000) (hv:OutOf B0 p s w v) (hal:(s.bl 1).length≤4000000) :
    Calls Tryz.prog 52 #[.pointer (some ⟨p,1,none⟩),v] w fun e w'=>e = .returned (.tuple #[])∧∃ s',LaysTo B0 p K s w v s' w':=by
  refine (lay_trades w p B0 (s.bv 1) (s.bl 1) v n c (h.cb 1 (by omega)) (h.rb 1 (by omega)) h.b0 hl (fun b q=>(hv b q).2.1) (fun q=>(hv p q).2.2.2 .p rfl) (fun b q q'=>(hv b q).2.2.2 (.b 1) ⟨by omega,q'⟩) (fun q=>h.sep (.b 1) .p p (by simp) ⟨by omega,q⟩ rfl) hal hn).mono ?_
  rintro e w' ⟨rfl,P⟩
  have kk:Kep (fun b=>v.ownBlock=some b∨∃ ix,s.F p ix b) w w':=by
    obtain ⟨v',nv,q1,q2,q3,q4,k,q6⟩:=P
    refine k.mono fun b hb=>.inl ?_
    rcases hb with q | q | q
    · exact .inr ⟨.p,q⟩
    · exact .inl q
    · exact .inr ⟨.b 1,by omega,q⟩
  obtain ⟨s',i1,i2,i3,i4,_⟩:=h.entry 1 (by omega) hv P
  exact ⟨rfl,s',i1,i2,i3,i4,kk⟩

theorem lay_levels_at {B0 p:Nat} {K:Int} {s:Sta} {w:World} (h:Stands B0 p K s w) (v:Value) (n c:Nat) (hl:LRow w v 3 n c) (hn:n≤1000) (hv:OutOf B0 p s w v) (hal:(s.bl 2).length≤4000000) :
    Calls Tryz.prog 113 #[.pointer (some ⟨p,1,none⟩),v] w fun e w'=>e = .returned (.tuple #[])∧∃ s',LaysTo B0 p K s w v s' w':=by
  refine (lay_levels w p B0 (s.bv 2) (s.bl 2) v n c (h.cb 2 (by omega)) (h.rb 2 (by omega)) h.b0 hl (fun b q=>(hv b q).2.1) (fun q=>(hv p q).2.2.2 .p rfl) (fun b q q'=>(hv b q).2.2.2 (.b 2) ⟨by omega,q'⟩) (fun q=>h.sep (.b 2) .p p (by simp) ⟨by omega,q⟩ rfl) hal hn).mono ?_
  rintro e w' ⟨rfl,P⟩
  have kk:Kep (fun b=>v.ownBlock=some b∨∃ ix,s.F p ix b) w w':=by
    obtain ⟨v',nv,q1,q2,q3,q4,k,q6⟩:=P
    refine k.mono fun b hb=>.inl ?_
    rcases hb with q | q | q
    · exact .inr ⟨.p,q⟩
    · exact .inl q
    · exact .inr ⟨.b 2,by omega,q⟩
  obtain ⟨s',i1,i2,i3,i4,_⟩:=h.entry 2 (by omega) hv P
  exact ⟨rfl,s',i1,i2,i3,i4,kk⟩

theorem lay_orders_at {B0 p:Nat} {K:Int} {s:Sta} {w:World} (h:Stands B0 p K s w) (v:Value) (n c:Nat) (hl:LRow w v 8 n c) (hn:n≤1000) (hv:OutOf B0 p s w v) (hal:(s.bl 3).length≤4000000) :
    Calls Tryz.prog 58 #[.pointer (some ⟨p,1,none⟩),v] w fun e w'=>e = .returned (.tuple #[])∧∃ s',LaysTo B0 p K s w v s' w':=by
  refine (lay_orders w p B0 (s.bv 3) (s.bl 3) v n c (h.cb 3 (by omega)) (h.rb 3 (by omega)) h.b0 hl (fun b q=>(hv b q).2.1) (fun q=>(hv p q).2.2.2 .p rfl) (fun b q q'=>(hv b q).2.2.2 (.b 3) ⟨by omega,q'⟩) (fun q=>h.sep (.b 3) .p p (by simp) ⟨by omega,q⟩ rfl) hal hn).mono ?_
  rintro e w' ⟨rfl,P⟩
  have kk:Kep (fun b=>v.ownBlock=some b∨∃ ix,s.F p ix b) w w':=by
    obtain ⟨v',nv,q1,q2,q3,q4,k,q6⟩:=P
    refine k.mono fun b hb=>.inl ?_
    rcases hb with q | q | q
    · exact .inr ⟨.p,q⟩
    · exact .inl q
    · exact .inr ⟨.b 3,by omega,q⟩
  obtain ⟨s',i1,i2,i3,i4,_⟩:=h.entry 3 (by omega) hv P
  exact ⟨rfl,s',i1,i2,i3,i4,kk⟩

theorem traded_at {B0 p:Nat} {K:Int} {s:Sta} {w:World} (h:Stands B0 p K s w) (n c:Int) (ts:List Td) (v u:Value) (r1:w.ownsRow 0 67 6 v ts.length (tdCells ts)) (r2:w.ownsRow 0 67 6 u ts.length (tdCells ts)) (h61:ts.length≤61) (hv:OutOf B0 p s w v) (hal:(s.bl 1).length≤4000000) :
    Calls Tryz.prog 16 #[.pointer (some ⟨p,0,none⟩),.int .i64 n,v,.int .i64 c,.int .i64 n,u,.int .i64 c] w fun e w'=>e = .returned (.bool true)∧∃ s',Stands B0 p K s' w'∧Goes B0 0 0 1 s w s' w':=by
  refine (ltd_any (fun W w'=>∃ s',LaysTo B0 p K s W v s' w') w p n c ts v u r1 r2 h61 (fun W k=>?_)).mono ?_
  · obtain ⟨cc,hl⟩:=LRow.of_row (ownsRow_kep r1 k (fun _ _ q=>q))
    exact lay_trades_at (h.later k) v _ cc hl (by omega) (hv.later k) hal
  · rintro e w' ⟨rfl,W,k,s',L⟩
    exact ⟨rfl,s',L.st,((h.goes k).trans L.go).wide (by omega) (by omega) (by omega)⟩

theorem RTold.post {w w':World} {L:RL} {r':Rm} {v:Value} {ts:List Td} (T:RTold w L r' v ts w'):RPost w L r' w':=by
  obtain ⟨L',a,b,c,_⟩:=T.rep
  exact ⟨T.kp,L',a,b,c⟩

theorem told_at {B0 p:Nat} {K:Int} {s:Sta} {W w1 w2:World} (h:Stands B0 p K s W) (k:Nat) (hkn:k<s.n) {m':Mt} {r':Rm} {v u:Value} {ts:List Td} (P:TdPost W (s.L k) (s.m k) m' v ts w1) (T:RTold w1 (s.R k) r' u ts w2) (F':Fit m' r') (nu':m'.nu≤K+1) (h61:ts.length≤61) (hal:(s.bl 1).length≤4000000) (n c:Int) :
    Calls Tryz.prog 16 #[.pointer (some ⟨p,0,none⟩),.int .i64 n,v,.int .i64 c,.int .i64 n,u,.int .i64 c] w2 fun e w3=>e = .returned (.bool true)∧∃ s',Stands B0 p (K+1) s' w3∧Goes B0 0 0 1 s W s' w3:=by
  obtain ⟨L',a1,a2,a3,a4⟩:=P.rep
  have F:=h.fit k hkn
  have dis:∀ b,(s.L k).X (s.m k) b→¬ (s.R k).S b:=fun b hb hb'=>h.sep (.x k) (.c k) b (by simp) ⟨hkn,hb⟩ ⟨hkn,hb'⟩
  have s1:=P.kp.size
  have s2:=T.kp.size
  have PP:PairPost (fun b=>v.ownBlock=some b) W (s.L k) (s.R k) (s.m k) m' r' w2:=pair_post (Kep.refl _ _) F.inv.ok F'.inv.ok F.rok (h.rx k hkn) (h.rc k hkn) dis P.kp a1 a2 a3 (fun b hb=>⟨(P.tr.lt b hb).1,(P.tr.lt b hb).2,a4 b hb⟩) T.post
  obtain ⟨s',i1,i2,e1,e2,e3,i3⟩:=h.pair k hkn PP F' (show K≤K+1 by omega) nu'
  have ltR:=rlt (h.rc k hkn) F.rok
  have hv:OutOf B0 p s' w2 v:=fun b hb=>by
    have hb1:=(P.tr.lt b hb).1
    have hb2:=(P.tr.lt b hb).2
    have:=h.b0
    refine ⟨by omega,by omega,fun q=>?_,i3 b hb hb1⟩
    rw [e3] at q
    have:=h.dlt b q
    omega
  refine (traded_at i1 n c ts v u (ownsRow_kep (ownsRow_mono P.tr (Nat.zero_le _)) T.kp (fun b hb q=>?_)) (ownsRow_mono T.tr (Nat.zero_le _)) h61 hv (by rw [e2];exact hal)).mono ?_
  · have:=(P.tr.lt b hb).1
    have:=ltR b q
    omega
  · rintro e w3 ⟨rfl,s'',j1,j2⟩
    exact ⟨rfl,s'',j1,(i2.trans j2).wide (by omega) (by omega) (by omega)⟩

theorem placeT_len {m:Mt} {N:Int} (ok:m.Ok N) (o:Od):(placeT m o).length≤61:=by
  unfold placeT
  split
  · rename_i h0
    obtain ⟨x1,_⟩:=placeE_zero h0
    obtain ⟨h1,h2,h3,h4⟩:=refE1_zero x1
    obtain ⟨s0,s1⟩:=fit_side h4
    have q:at3 m o.h.toNat o.g.toNat (otherS o.s.toNat):=⟨by have:=h2.1;have:=h2.2;omega,by have:=h3.1;have:=h3.2;omega,by unfold otherS;split <;> omega⟩
    have l1:=matchM_len (h:=o.h.toNat) (g:=o.g.toNat) (s:=otherS o.s.toNat) (m.bk o.h.toNat o.g.toNat (otherS o.s.toNat)) (holdM { m with nu:=m.nu+1 } { o with id:=m.nu+1 }) { o with id:=m.nu+1 }
    have l2:=all_setBk m q []
    have l3:=ok.a60
    simp only [List.length_nil] at l2
    unfold placed
    omega
  · simp

theorem Changes.len {m m':Mt} {N t id p q n c:Int} {ts:List Td} (I:m.Inv N) (C:Changes m t id p q n ts c m'):ts.length≤61:=by
  rcases C with ⟨_,_,rfl,_⟩ | ⟨_,_,_,rfl,_⟩ | ⟨_,h,g,s,i,o,S,(⟨_,_,rfl,_⟩ | ⟨_,_,_,rfl,_⟩ | ⟨_,_,_,_,rfl,_⟩ | ⟨_,_,_,_,rfl,_⟩)⟩
  all_goals first | exact placeT_len (I.back S.q S.ho).ok _ | simp

section
variable {B0 p:Nat} {K:Int} {s:Sta} {w:World}

theorem Stands.lo (h:Stands B0 p K s w) (k:Nat) (hkn:k<s.n):∀ b,(s.L k).S (s.m k) b→b<w.heap.size:=fun b hb=>h.lt (.x k) b ⟨hkn,.inl hb⟩

theorem place_at (h:Stands B0 p K s w) (k:Nat) (hkn:k<s.n) (hK:K≤1100000) (hal:(s.bl 1).length≤4000000) (o:Od) (W:World) (kW:Kep non w W) :
    Calls Tryz.prog 14 #[.pointer (some ⟨(s.L k).x,0,none⟩),.agg #[.int .i64 o.id,.int .i64 o.t,.int .i64 o.h,.int .i64 o.g,.int .i64 o.s,.int .i64 o.p,.int .i64 o.q,.int .i64 o.w]] W fun e w1=>∃ n v c,e = .returned (.tuple #[.int .i64 n,v,.int .i64 c])∧Kep (fun b=>b<w.heap.size) W w1∧Calls Tryz.prog 15 #[.pointer (some ⟨(s.R k).c,0,none⟩),.agg #[.int .i64 o.id,.int .i64 o.t,.int .i64 o.h,.int .i64 o.g,.int .i64 o.s,.int .i64 o.p,.int .i64 o.q,.int .i64 o.w]] w1 fun e w2=>∃ u,e = .returned (.tuple #[.int .i64 n,u,.int .i64 c])∧Calls Tryz.prog 16 #[.pointer (some ⟨p,0,none⟩),.int .i64 n,v,.int .i64 c,.int .i64 n,u,.int .i64 c] w2 fun e w3=>e = .returned (.bool true)∧StepPost 0 0 w B0 p K s w3:=by
  have hW:=h.later kW
  have F:=hW.fit k hkn
  have nu:=hW.nu k hkn
  have hn:(s.m k).nu+1≤20000000:=by omega
  obtain ⟨e1,e2,e3,e4⟩:=F.rel.place F.inv F.jn hn o
  refine (place_any W (s.L k) (s.m k) 20000000 (hW.rx k hkn) F.inv hn o).mono ?_
  rintro e w1 ⟨v,rfl,P⟩
  refine ⟨_,v,_,rfl,P.kp.mono fun b hb=>.inl (h.lo k hkn b hb),?_⟩
  have RR:=(hW.rc k hkn).keep P.kp (fun b hb hb'=>hW.sep (.x k) (.c k) b (by simp) ⟨hkn,.inl hb'⟩ ⟨hkn,hb⟩)
  refine (refPlace_any w1 (s.R k) (s.r k) RR F.rok o (by rw [F.rel.nx];omega)).mono ?_
  rintro e w2 ⟨u,rfl,T⟩
  rw [e3,e1]
  rw [e4] at T
  refine ⟨u,rfl,(told_at hW k hkn P T (F.place hn o) ?_ (placeT_len F.inv.ok o) hal _ _).mono ?_⟩
  · have:=(Does.place (mon:=0) (p0:=0) (p1:=0) F.inv hn o).nu
    omega
  · rintro e w3 ⟨rfl,s',i1,i2⟩
    exact ⟨rfl,StepPost.after h kW (by omega) (by omega) i1 i2⟩

theorem change_at (h:Stands B0 p K s w) (k:Nat) (hkn:k<s.n) (hK:K≤1100000) (hal:(s.bl 1).length≤4000000) (A B C D:Int) (W:World) (kW:Kep non w W) :
    Calls Tryz.prog 20 #[.pointer (some ⟨(s.L k).x,0,none⟩),.int .i64 A,.int .i64 B,.int .i64 C,.int .i64 D] W fun e w1=>∃ n v c,e = .returned (.tuple #[.int .i64 n,v,.int .i64 c])∧Kep (fun b=>b<w.heap.size) W w1∧Calls Tryz.prog 21 #[.pointer (some ⟨(s.R k).c,0,none⟩),.int .i64 A,.int .i64 B,.int .i64 C,.int .i64 D] w1 fun e w2=>∃ u,e = .returned (.tuple #[.int .i64 n,u,.int .i64 c])∧Calls Tryz.prog 16 #[.pointer (some ⟨p,0,none⟩),.int .i64 n,v,.int .i64 c,.int .i64 n,u,.int .i64 c] w2 fun e w3=>e = .returned (.bool true)∧StepPost 0 0 w B0 p K s w3:=by
  have hW:=h.later kW
  have F:=hW.fit k hkn
  have nu:=hW.nu k hkn
  have hn:(s.m k).nu+1≤20000000:=by omega
  refine (change_any W (s.L k) (s.m k) 20000000 A B C D (hW.rx k hkn) F.inv hn).mono ?_
  rintro e w1 ⟨n,v,c,ts,m',CC,rfl,P⟩
  refine ⟨n,v,c,rfl,P.kp.mono fun b hb=>.inl (h.lo k hkn b hb),?_⟩
  have RR:=(hW.rc k hkn).keep P.kp (fun b hb hb'=>hW.sep (.x k) (.c k) b (by simp) ⟨hkn,.inl hb'⟩ ⟨hkn,hb⟩)
  refine (refChange_any w1 (s.R k) (s.r k) RR F.rok A B C D (by rw [F.rel.nx];omega)).mono ?_
  rintro e w2 ⟨n',u,c',ts',r',DD,rfl,T⟩
  obtain ⟨⟨rfl,rfl,rfl⟩,F',hnu⟩:=F.changes hn CC DD
  refine ⟨u,rfl,(told_at hW k hkn P T F' (by omega) (CC.len F.inv) hal _ _).mono ?_⟩
  rintro e w3 ⟨rfl,s',i1,i2⟩
  exact ⟨rfl,StepPost.after h kW (by omega) (by omega) i1 i2⟩

theorem cancel_at (h:Stands B0 p K s w) (k:Nat) (hkn:k<s.n) (A B:Int) (W:World) (kW:Kep non w W) :
    Calls Tryz.prog 18 #[.pointer (some ⟨(s.L k).x,0,none⟩),.int .i64 A,.int .i64 B] W fun e w1=>∃ c,e = .returned (.int .i64 c)∧Kep (fun b=>b<w.heap.size) W w1∧Calls Tryz.prog 19 #[.pointer (some ⟨(s.R k).c,0,none⟩),.int .i64 A,.int .i64 B] w1 fun e w2=>e = .returned (.int .i64 c)∧StepPost 0 0 w B0 p K s w2:=by
  have hW:=h.later kW
  have F:=hW.fit k hkn
  have nu:=hW.nu k hkn
  refine (cancel_any W (s.L k) (s.m k) 20000000 A B (hW.rx k hkn) F.inv.ok).mono ?_
  rintro e w1 ⟨c,m',CC,rfl,P⟩
  refine ⟨c,rfl,P.kp.mono fun b hb=>.inl (h.lo k hkn b hb),?_⟩
  have dis:∀ b,(s.L k).X (s.m k) b→¬ (s.R k).S b:=fun b hb hb'=>hW.sep (.x k) (.c k) b (by simp) ⟨hkn,hb⟩ ⟨hkn,hb'⟩
  have RR:=(hW.rc k hkn).keep P.kp (fun b hb hb'=>dis b (.inl hb') hb)
  refine (refCancel_any w1 (s.R k) (s.r k) 0 RR F.rok A B).mono ?_
  rintro e w2 ⟨c',r',rfl,DD,T⟩
  obtain ⟨rfl,F',hnu⟩:=F.cancels CC DD
  obtain ⟨L',a1,a2,a3⟩:=P.rep
  have PP:PairPost non W (s.L k) (s.R k) (s.m k) m' r' w2:=pair_post (Kep.refl _ _) F.inv.ok F'.inv.ok F.rok (hW.rx k hkn) (hW.rc k hkn) dis P.kp a1 a2 a3 (fun _ q=>q.elim) T
  obtain ⟨s',i1,i2,_⟩:=hW.pair k hkn PP F' (show K≤K+1 by omega) (by omega)
  exact ⟨rfl,StepPost.after h kW (by omega) (by omega) i1 i2⟩
end
end

section
open Go.RowKit Go.Sort

def BookPost (w:World) (m:Mt) (h g:Nat) (e:Ending) (w':World):Prop :=
  ∃ v u B,e = .returned (.tuple #[v,u,.int .i64 0])∧w'.ownsRow w.heap.size 72 3 v (lvL (m.bk h g 0)).length (lvCells (lvL (m.bk h g 0)))∧w'.ownsRow B 72 3 u (lvL (m.bk h g 1)).length (lvCells (lvL (m.bk h g 1)))∧w.heap.size<B∧B<w'.heap.size∧(∀ b,v.ownBlock=some b→b<B)∧Below w.heap.size w w'

set_option maxRecDepth 100000 in
set_option maxHeartbeats 4000000 in
theorem book_any (w:World) (L:PL) (m:Mt) (N:Int) (R:PRep w L m) (ok:m.Ok N) (h g:Nat) (hh:h<m.H) (hg:g<m.G) :
    Calls Tryz.prog 53 #[.pointer (some ⟨L.x,0,none⟩),.int .i64 h,.int .i64 g] w (BookPost w m h g):=by
  have HCk:=hide (show Calls Tryz.prog 110 #[.pointer (some ⟨L.x,0,none⟩),.int .i64 h,.int .i64 g] w fun e w'=>e = .returned (.int .i64 0)∧w=w' from by
    have:=checkBook_any w L m N h g R ok
    have e:bookE m h g=0:=by
      unfold bookE
      rw [if_pos ⟨by omega,by omega⟩,if_pos ⟨by omega,by omega⟩]
    rw [e] at this
    exact this.mono fun e w' h=>⟨h.1,h.2.symm⟩)
  have HL:=hide (fun s (q:at3 m h g s) W (S:Below w.heap.size w W)=>levels_any W L m N (R.bel S) ok h g s q)
  have HC:=hide (show ∀ W,Below w.heap.size w W→W.cell? ⟨L.gb h,g * 5,none⟩=some (.pointer (some ⟨L.qb h g 0,0,none⟩))∧W.cell? ⟨L.gb h,g * 5+1,none⟩=some (.pointer (some ⟨L.qb h g 1,0,none⟩)) from fun W S =>
    ⟨((R.bel S).sd h g 0 ⟨hh,hg,by decide⟩).cell,((R.bel S).sd h g 1 ⟨hh,hg,by decide⟩).cell⟩)
  have HL0:=hide (HL.out 0 ⟨hh,hg,by decide⟩)
  have HL1:=hide (HL.out 1 ⟨hh,hg,by decide⟩)
  have c4:=R.cB.cell
  have cb:=R.bks h hh
  have hh':(h:Int)<(m.H:Int):=by omega
  have hg':(g:Int)<(m.G:Int):=by omega
  obtain ⟨s0,s1⟩:=HC.out w (Below.refl _ _)
  clear R ok HL
  go_enter Tryz.func53,Tryz.ntmps53
  go_wp2_with (go_at_call 110;refine HCk.out.mono ?_;rintro e w' ⟨rfl,rfl⟩)
  clear HCk
  have HB0:=hide (show Below w.heap.size w w.drew from (Below.refl _ _).drew)
  refine wp_region_any (by kernel_rfl) ?_
  change wpAny _ _ _ _ _ _ _ (World.drew _)
  refine wpAny_take (i:=0) (v:=.pointer (some ⟨L.gb h,g * 5,none⟩)) rfl (by kernel_rfl) (by kernel_rfl) (by kernel_rfl) (fun _ _ _ h=>h) (Or.inl ⟨by rfl,fun w=>by go_simp⟩) ?_
  refine wpAny_take (i:=1) (v:=.pointer (some ⟨L.gb h,g * 5,none⟩)) rfl (by kernel_rfl) (by kernel_rfl) (by kernel_rfl) (fun _ _ _ h=>h) (Or.inl ⟨by rfl,fun w=>by go_simp⟩) ?_
  refine wpAny_take (i:=2) (v:=.pointer (some ⟨L.gb h,g * 5,none⟩)) rfl (by kernel_rfl) (by kernel_rfl) (by kernel_rfl) (fun _ _ _ h=>h) (Or.inl ⟨by rfl,fun w=>by go_simp⟩) ?_
  refine wpAny_take (i:=3) (v:=.pointer (some ⟨L.gb h,g * 5,none⟩)) rfl (by kernel_rfl) (by kernel_rfl) (by kernel_rfl) (fun _ _ _ h=>h) (Or.inl ⟨by rfl,fun w=>by go_simp⟩) ?_
  refine wpAny_take (i:=6) (v:=.pointer (some ⟨L.gb h,g * 5,none⟩)) rfl (by kernel_rfl) (by kernel_rfl) (by kernel_rfl) (fun _ _ _ h=>h) (Or.inl ⟨by rfl,fun w=>by go_simp⟩) ?_
  refine wpAny_take (i:=7) (v:=.pointer (some ⟨L.gb h,g * 5,none⟩)) rfl (by kernel_rfl) (by kernel_rfl) (by kernel_rfl) (fun _ _ _ h=>h) (Or.inl ⟨by rfl,fun w=>by go_simp⟩) ?_
  refine wpAny_take (i:=8) (v:=.pointer (some ⟨L.gb h,g * 5,none⟩)) rfl (by kernel_rfl) (by kernel_rfl) (by kernel_rfl) (fun _ _ _ h=>h) (Or.inl ⟨by rfl,fun w=>by go_simp⟩) ?_
  refine wpAny_take (i:=9) (v:=.pointer (some ⟨L.gb h,g * 5+1,none⟩)) rfl (by kernel_rfl) (by kernel_rfl) (by kernel_rfl) (fun _ _ _ h=>h) (Or.inl ⟨by rfl,fun w=>by go_simp⟩) ?_
  refine wpAny_ready (rs:=[4,10]) (by kernel_rfl) (by simp) ?_
  refine AllReady.cons rfl (fun K hK=>?_) ?_
  · go_simp
    refine hK _ _ ?_
    clear hK K
    refine wpAny_ready (rs:=[5,10]) (by kernel_rfl) (by simp) ?_
    refine AllReady.cons rfl (fun K hK=>?_) ?_
    · go_simp
      refine (HL0.out _ HB0.out).mono ?_
      rintro e w1 ⟨v,rfl,r1,b1,z1'⟩
      have hB1:Below w.heap.size w w1:=HB0.out.trans b1
      have s2:=(HC.out _ hB1).2
      refine hK _ _ ?_
      clear hK K
      refine wpAny_ready (rs:=[10]) (by kernel_rfl) (by simp) ?_
      refine AllReady.cons rfl (fun K hK=>?_) AllReady.nil
      go_simp
      refine hK _ _ ?_
      clear hK K
      refine wpAny_ready (rs:=[11]) (by kernel_rfl) (by simp) ?_
      refine AllReady.cons rfl (fun K hK=>?_) AllReady.nil
      go_simp
      refine (HL1.out _ hB1).mono ?_
      rintro e w2 ⟨u,rfl,r2,b2,z2'⟩
      refine hK _ _ ?_
      clear hK K
      refine wpAny_ready (rs:=[12]) (by kernel_rfl) (by simp) ?_
      refine AllReady.cons rfl (fun K hK=>?_) AllReady.nil
      go_simp
      refine hK _ _ ?_
      clear hK K
      refine wpAny_ready (rs:=[13]) (by kernel_rfl) (by simp) ?_
      refine AllReady.cons rfl (fun K hK=>?_) AllReady.nil
      go_simp
      refine hK _ _ ?_
      clear hK K
      refine wpAny_ready (rs:=[14]) (by kernel_rfl) (by simp) ?_
      refine AllReady.cons rfl (fun K hK=>?_) AllReady.nil
      go_simp
      refine hK _ _ ?_
      clear hK K
      refine wpAny_done (by kernel_rfl) ?_ _
      have l1:=fun b hb=>(r1.lt b hb).2
      have z1:=hB1.size
      have HP:=hide (show BookPost w m h g (.returned (.tuple #[v,u,.int .i64 0])) w2 from ⟨v,u,w1.heap.size,rfl,ownsRow_kep r1 (Kep.of_below (S:=non) b2) (fun _ _ f=>f),r2,by rw [World.size_drew] at z1';exact z1',z2',l1,hB1.trans (b2.mono z1)⟩)
      clear r1 r2 b1 b2 hB1 HL0 HL1 HC s2
      go_wp2
      exact bodyPost_ret (v:=.tuple #[v,u,.int .i64 0]) (by simp [results,Tryz.results53,go_sem]) rfl HP.out
    refine AllReady.cons rfl (fun K hK=>?_) AllReady.nil
    go_simp
    refine hK _ _ ?_
    clear hK K
    refine wpAny_ready (rs:=[5]) (by kernel_rfl) (by simp) ?_
    refine AllReady.cons rfl (fun K hK=>?_) AllReady.nil
    go_simp
    refine (HL0.out _ HB0.out).mono ?_
    rintro e w1 ⟨v,rfl,r1,b1,z1'⟩
    have hB1:Below w.heap.size w w1:=HB0.out.trans b1
    have s2:=(HC.out _ hB1).2
    refine hK _ _ ?_
    clear hK K
    refine wpAny_ready (rs:=[11]) (by kernel_rfl) (by simp) ?_
    refine AllReady.cons rfl (fun K hK=>?_) AllReady.nil
    go_simp
    refine (HL1.out _ hB1).mono ?_
    rintro e w2 ⟨u,rfl,r2,b2,z2'⟩
    refine hK _ _ ?_
    clear hK K
    refine wpAny_ready (rs:=[12]) (by kernel_rfl) (by simp) ?_
    refine AllReady.cons rfl (fun K hK=>?_) AllReady.nil
    go_simp
    refine hK _ _ ?_
    clear hK K
    refine wpAny_ready (rs:=[13]) (by kernel_rfl) (by simp) ?_
    refine AllReady.cons rfl (fun K hK=>?_) AllReady.nil
    go_simp
    refine hK _ _ ?_
    clear hK K
    refine wpAny_ready (rs:=[14]) (by kernel_rfl) (by simp) ?_
    refine AllReady.cons rfl (fun K hK=>?_) AllReady.nil
    go_simp
    refine hK _ _ ?_
    clear hK K
    refine wpAny_done (by kernel_rfl) ?_ _
    have l1:=fun b hb=>(r1.lt b hb).2
    have z1:=hB1.size
    have HP:=hide (show BookPost w m h g (.returned (.tuple #[v,u,.int .i64 0])) w2 from ⟨v,u,w1.heap.size,rfl,ownsRow_kep r1 (Kep.of_below (S:=non) b2) (fun _ _ f=>f),r2,by rw [World.size_drew] at z1';exact z1',z2',l1,hB1.trans (b2.mono z1)⟩)
    clear r1 r2 b1 b2 hB1 HL0 HL1 HC s2
    go_wp2
    exact bodyPost_ret (v:=.tuple #[v,u,.int .i64 0]) (by simp [results,Tryz.results53,go_sem]) rfl HP.out
  refine AllReady.cons rfl (fun K hK=>?_) AllReady.nil
  go_simp
  refine hK _ _ ?_
  clear hK K
  refine wpAny_ready (rs:=[4]) (by kernel_rfl) (by simp) ?_
  refine AllReady.cons rfl (fun K hK=>?_) AllReady.nil
  go_simp
  refine hK _ _ ?_
  clear hK K
  refine wpAny_ready (rs:=[5]) (by kernel_rfl) (by simp) ?_
  refine AllReady.cons rfl (fun K hK=>?_) AllReady.nil
  go_simp
  refine (HL0.out _ HB0.out).mono ?_
  rintro e w1 ⟨v,rfl,r1,b1,z1'⟩
  have hB1:Below w.heap.size w w1:=HB0.out.trans b1
  have s2:=(HC.out _ hB1).2
  refine hK _ _ ?_
  clear hK K
  refine wpAny_ready (rs:=[11]) (by kernel_rfl) (by simp) ?_
  refine AllReady.cons rfl (fun K hK=>?_) AllReady.nil
  go_simp
  refine (HL1.out _ hB1).mono ?_
  rintro e w2 ⟨u,rfl,r2,b2,z2'⟩
  refine hK _ _ ?_
  clear hK K
  refine wpAny_ready (rs:=[12]) (by kernel_rfl) (by simp) ?_
  refine AllReady.cons rfl (fun K hK=>?_) AllReady.nil
  go_simp
  refine hK _ _ ?_
  clear hK K
  refine wpAny_ready (rs:=[13]) (by kernel_rfl) (by simp) ?_
  refine AllReady.cons rfl (fun K hK=>?_) AllReady.nil
  go_simp
  refine hK _ _ ?_
  clear hK K
  refine wpAny_ready (rs:=[14]) (by kernel_rfl) (by simp) ?_
  refine AllReady.cons rfl (fun K hK=>?_) AllReady.nil
  go_simp
  refine hK _ _ ?_
  clear hK K
  refine wpAny_done (by kernel_rfl) ?_ _
  have l1:=fun b hb=>(r1.lt b hb).2
  have z1:=hB1.size
  have HP:=hide (show BookPost w m h g (.returned (.tuple #[v,u,.int .i64 0])) w2 from ⟨v,u,w1.heap.size,rfl,ownsRow_kep r1 (Kep.of_below (S:=non) b2) (fun _ _ f=>f),r2,by rw [World.size_drew] at z1';exact z1',z2',l1,hB1.trans (b2.mono z1)⟩)
  clear r1 r2 b1 b2 hB1 HL0 HL1 HC s2
  go_wp2
  exact bodyPost_ret (v:=.tuple #[v,u,.int .i64 0]) (by simp [results,Tryz.results53,go_sem]) rfl HP.out
end

end Go.Proofs.YtcfoobhihhndjaaGreat

namespace Go.Proofs.YtcfoobhihhndjaaGreat

section
open Go.RowKit

set_option maxRecDepth 100000 in
set_option maxHeartbeats 1000000 in
theorem book_no (w:World) (L:PL) (m:Mt) (N h g:Int) (R:PRep w L m) (ok:m.Ok N) (hE:bookE m h g≠0) :
    Calls Tryz.prog 53 #[.pointer (some ⟨L.x,0,none⟩),.int .i64 h,.int .i64 g] w fun e w'=>e = .returned (.tuple #[.slice none 0 0,.slice none 0 0,.int .i64 (bookE m h g)])∧w'=w:=by
  have HC:=hide (checkBook_any w L m N h g R ok)
  clear R ok
  generalize bookE m h g=E at *
  have f1:(E != 0)=true:=by simpa using hE
  go_enter Tryz.func53,Tryz.ntmps53
  go_wp2_with (go_at_call 110;refine HC.out.mono ?_;rintro e w1 ⟨rfl,rfl⟩)
  exact bodyPost_ret (v:=.tuple #[.slice none 0 0,.slice none 0 0,.int .i64 E]) (by simp [results,Tryz.results53,go_sem]) rfl ⟨rfl,rfl⟩

theorem levels_at {B0 p:Nat} {K:Int} {s:Sta} {w:World} (h:Stands B0 p K s w) (ts:List Lv) (v u:Value) (r1:w.ownsRow 0 72 3 v ts.length (lvCells ts)) (r2:w.ownsRow 0 72 3 u ts.length (lvCells ts)) (h61:ts.length≤61) (hv:OutOf B0 p s w v) (hal:(s.bl 2).length≤4000000) :
    Calls Tryz.prog 55 #[.pointer (some ⟨p,0,none⟩),v,u] w fun e w'=>e = .returned (.bool true)∧∃ W,Kep non w W∧∃ s',LaysTo B0 p K s W v s' w':=by
  refine llv_any (fun W w'=>∃ s',LaysTo B0 p K s W v s' w') w p ts v u r1 r2 h61 (fun W k=>?_)
  obtain ⟨cc,hl⟩:=LRow.of_row (ownsRow_kep r1 k (fun _ _ q=>q))
  exact lay_levels_at (h.later k) v _ cc hl (by omega) (hv.later k) hal

theorem two_levels {B0 p:Nat} {K:Int} {s:Sta} {w:World} (h:Stands B0 p K s w) (ts ts2:List Lv) (v u v2 u2:Value) (r1:w.ownsRow 0 72 3 v ts.length (lvCells ts)) (r2:w.ownsRow 0 72 3 u ts.length (lvCells ts)) (r3:w.ownsRow 0 72 3 v2 ts2.length (lvCells ts2)) (r4:w.ownsRow 0 72 3 u2 ts2.length (lvCells ts2)) (h61:ts.length≤61) (h62:ts2.length≤61)
    (hv:OutOf B0 p s w v) (hv2:OutOf B0 p s w v2) (hu2:OutOf B0 p s w u2) (n1:∀ b,v2.ownBlock=some b→v.ownBlock≠some b) (n2:∀ b,u2.ownBlock=some b→v.ownBlock≠some b) (hal:(s.bl 2).length+1≤4000000) :
    Calls Tryz.prog 55 #[.pointer (some ⟨p,0,none⟩),v,u] w fun e w3=>e = .returned (.bool true)∧Calls Tryz.prog 55 #[.pointer (some ⟨p,0,none⟩),v2,u2] w3 fun e w4=>e = .returned (.bool true)∧∃ s',Stands B0 p K s' w4∧Goes B0 0 0 2 s w s' w4:=by
  refine (levels_at h ts v u r1 r2 h61 hv (by omega)).mono ?_
  rintro e w3 ⟨rfl,W,k,s1,L⟩
  have g1:=(h.goes k).trans L.go
  have ks:=L.kp
  have sz:=k.size
  have sz2:=L.kp.size
  have row:∀ {x:Value},w.ownsRow 0 72 3 x ts2.length (lvCells ts2)→OutOf B0 p s w x→(∀ b,x.ownBlock=some b→v.ownBlock≠some b)→w3.ownsRow 0 72 3 x ts2.length (lvCells ts2):=fun {x} r o n=>ownsRow_kep (ownsRow_kep r k (fun _ _ q=>q)) ks (fun b hb q=>by
    rcases q with q | ⟨ix,q⟩
    · exact n b hb q
    · exact (o b hb).2.2.2 ix q)
  have ov:OutOf B0 p s1 w3 v2:=fun b hb=>by
    obtain ⟨o1,o2,o3,o4⟩:=hv2 b hb
    refine ⟨o1,by omega,fun q=>?_,fun ix q=>?_⟩
    · rcases L.dd b q with q | q | q
      · exact o3 q
      · exact n1 b hb q
      · omega
    · rcases L.fo ix b q with q | q
      · exact o4 ix q
      · omega
  refine ⟨rfl,(levels_at L.st ts2 v2 u2 (row r3 hv2 n1) (row r4 hu2 n2) h62 ov ?_).mono ?_⟩
  · have:=g1.ln 2
    omega
  · rintro e w4 ⟨rfl,W2,k2,s2,L2⟩
    exact ⟨rfl,s2,L2.st,((g1.trans (L.st.goes k2)).trans L2.go).wide (by omega) (by omega) (by omega)⟩

theorem fresh_out {B0 p:Nat} {K:Int} {s:Sta} {w w':World} (h:Stands B0 p K s w) {v:Value} (hv:∀ b,v.ownBlock=some b→w.heap.size≤b∧b<w'.heap.size):OutOf B0 p s w' v:=fun b hb=>by
  have h1:=hv b hb
  have:=h.b0
  exact ⟨by omega,h1.2,fun q=>by have:=h.dlt b q;omega,fun ix q=>by have:=h.lt ix b q;omega⟩

theorem book_same {m:Mt} {r:Rm} (R:Rel m r) (h g:Int):rbookE r h g=bookE m h g:=by
  unfold rbookE bookE
  rw [R.H,R.G]
theorem bookE_zero {m:Mt} {h g:Int} (e:bookE m h g=0):okI m.H h∧okI m.G g:=by
  unfold bookE at e
  split at e
  · rename_i h1
    split at e
    · rename_i h2
      exact ⟨h1,h2⟩
    · omega
  · omega
theorem lvL_len (os:List Od) (h:∀ o∈os,1≤o.q∧o.q≤10000):(lvL os).length≤os.length:=(lvL_bd os h).2

section
variable {B0 p:Nat} {K:Int} {s:Sta} {w:World}

theorem book_at (h:Stands B0 p K s w) (k:Nat) (hkn:k<s.n) (hal:(s.bl 2).length+1≤4000000) (A B:Int) (W:World) (kW:Kep non w W) :
    Calls Tryz.prog 53 #[.pointer (some ⟨(s.L k).x,0,none⟩),.int .i64 A,.int .i64 B] W fun e w1=>∃ v v2 c,e = .returned (.tuple #[v,v2,.int .i64 c])∧Kep non W w1∧Calls Tryz.prog 54 #[.pointer (some ⟨(s.R k).c,0,none⟩),.int .i64 A,.int .i64 B] w1 fun e w2=>∃ u u2,e = .returned (.tuple #[u,u2,.int .i64 c]) ∧
      Calls Tryz.prog 55 #[.pointer (some ⟨p,0,none⟩),v,u] w2 fun e w3=>e = .returned (.bool true)∧Calls Tryz.prog 55 #[.pointer (some ⟨p,0,none⟩),v2,u2] w3 fun e w4=>e = .returned (.bool true)∧StepPost 0 0 w B0 p K s w4:=by
  have hW:=h.later kW
  have F:=hW.fit k hkn
  have ok:=F.inv.ok
  by_cases hE:bookE (s.m k) A B=0
  · obtain ⟨hA,hB⟩:=bookE_zero hE
    obtain ⟨a,rfl⟩:=Int.eq_ofNat_of_zero_le hA.1
    obtain ⟨b,rfl⟩:=Int.eq_ofNat_of_zero_le hB.1
    have ha:a<(s.m k).H:=by have:=hA.2;omega
    have hb:b<(s.m k).G:=by have:=hB.2;omega
    refine (book_any W (s.L k) (s.m k) 20000000 (hW.rx k hkn) ok a b ha hb).mono ?_
    rintro e w1 ⟨v,v2,X,rfl,r1,r2,x1,x2,x3,b1⟩
    have k1:Kep non W w1:=Kep.of_below b1
    refine ⟨v,v2,0,rfl,k1,?_⟩
    refine (rbook_yes w1 (s.R k) (s.r k) 0 a b ((hW.rc k hkn).later k1) F.rok (by rw [F.rel.H];exact ha) (by rw [F.rel.G];exact hb)).mono ?_
    rintro e w2 ⟨u,u2,rfl,r3,r4,k2⟩
    rw [F.rel.levels F.inv F.jn ⟨ha,hb,by decide⟩] at r3 r4
    have q61:∀ c,c<2→(lvL ((s.m k).bk a b c)).length≤61:=fun c hc=>by
      have l1:=lvL_len ((s.m k).bk a b c) (fun o ho=>(ok.od a b c o ha hb hc ho).q)
      have l2:=all_setBk (s.m k) (h:=a) (g:=b) (s:=c) ⟨ha,hb,hc⟩ []
      have l3:=ok.a60
      simp only [List.length_nil] at l2
      omega
    have z1:=k1.size
    have z2:=k2.size
    have hw2:=hW.later (k1.trans k2)
    refine ⟨u,u2,rfl,(two_levels hw2 _ _ v u v2 u2 (ownsRow_kep (ownsRow_mono r1 (Nat.zero_le _)) k2 (fun _ _ q=>q)) (ownsRow_mono r3 (Nat.zero_le _)) (ownsRow_kep (ownsRow_mono r2 (Nat.zero_le _)) k2 (fun _ _ q=>q)) (ownsRow_mono r4 (Nat.zero_le _)) (q61 0 (by decide)) (q61 1 (by decide)) ?_ ?_ ?_ ?_ ?_ hal).mono ?_⟩
    · exact fresh_out hW fun b hb=>⟨(r1.lt b hb).1,by have:=(r1.lt b hb).2;omega⟩
    · exact fresh_out hW fun b hb=>⟨by have:=(r2.lt b hb).1;omega,by have:=(r2.lt b hb).2;omega⟩
    · exact fresh_out hW fun b hb=>⟨by have:=(r4.lt b hb).1;omega,(r4.lt b hb).2⟩
    · intro b hb q
      have:=x3 b q
      have:=(r2.lt b hb).1
      omega
    · intro b hb q
      have:=(r1.lt b q).2
      have:=(r4.lt b hb).1
      omega
    · rintro e w3 ⟨rfl,C3⟩
      refine ⟨rfl,C3.mono ?_⟩
      rintro e w4 ⟨rfl,s',i1,i2⟩
      exact ⟨rfl,StepPost.after h (kW.trans (k1.trans k2)) (by omega) (by omega) i1 i2⟩
  · refine (book_no W (s.L k) (s.m k) 20000000 A B (hW.rx k hkn) ok hE).mono ?_
    rintro e w1 ⟨rfl,rfl⟩
    refine ⟨_,_,_,rfl,Kep.refl _ _,?_⟩
    have hE2:rbookE (s.r k) A B≠0:=by rw [book_same F.rel];exact hE
    refine (rbook_no w1 (s.R k) (s.r k) A B (hW.rc k hkn) hE2).mono ?_
    rintro e w2 ⟨rfl,rfl⟩
    rw [book_same F.rel]
    have nn:World.ownsRow w2 0 72 3 (.slice none 0 0) ([]:List Lv).length (lvCells []):=World.ownsRow_nil _ _ _ _
    have on:OutOf B0 p s w2 (.slice none 0 0):=fun b hb=>by simp [Value.ownBlock] at hb
    refine ⟨_,_,rfl,(two_levels hW [] [] _ _ _ _ nn nn nn nn (by simp) (by simp) on on on (fun b hb=>by simp [Value.ownBlock] at hb) (fun b hb=>by simp [Value.ownBlock] at hb) hal).mono ?_⟩
    rintro e w3 ⟨rfl,C3⟩
    refine ⟨rfl,C3.mono ?_⟩
    rintro e w4 ⟨rfl,s',i1,i2⟩
    exact ⟨rfl,StepPost.after h kW (by omega) (by omega) i1 i2⟩

theorem stat_any (W:World) (L:PL) (m:Mt) (N:Int) (A B:Int) (R:PRep W L m) (I:m.Inv N):∃ a b f c,(FloatKind.f64.format.order f f == some .eq)=true∧(∀ V,Kep non W V→Calls Tryz.prog 59 #[.pointer (some ⟨L.x,0,none⟩),.int .i64 A,.int .i64 B] V fun e w1=>e = .returned (.tuple #[.agg #[.int .i64 a,.int .i64 b,.float .f64 f],.int .i64 c])∧Kep non V w1) ∧
    ∀ (V:World) (RL':RL) (r:Rm),Rel m r→RRep V RL' r→r.Ok 0→Calls Tryz.prog 60 #[.pointer (some ⟨RL'.c,0,none⟩),.int .i64 A,.int .i64 B] V fun e w1=>e = .returned (.tuple #[.agg #[.int .i64 a,.int .i64 b,.float .f64 f],.int .i64 c])∧Kep non V w1:=by
  by_cases hE:bookE m A B=0
  · obtain ⟨hA,hB⟩:=bookE_zero hE
    obtain ⟨a,rfl⟩:=Int.eq_ofNat_of_zero_le hA.1
    obtain ⟨b,rfl⟩:=Int.eq_ofNat_of_zero_le hB.1
    have ha:a<m.H:=by have:=hA.2;omega
    have hb:b<m.G:=by have:=hB.2;omega
    obtain ⟨⟨p0,p1⟩,a0,a1⟩:=Mt.In.pi_le I (Int.le_refl _) ha hb
    refine ⟨m.la a b,m.pi a b,meanF (m.am a b) (m.pi a b),0,meanF_self a0 a1 (by omega),fun V k=>stat_yes V L m N a b (R.later k) I ha hb,fun V R' r rel rr ok=>?_⟩
    have:=rstat_yes V R' r 0 a b rr ok (by rw [rel.H];exact ha) (by rw [rel.G];exact hb) (by rw [rel.am a b ha hb];exact a1)
    rw [rel.la a b ha hb,rel.pi a b ha hb,rel.am a b ha hb] at this
    exact this
  · refine ⟨0,0,meanF 0 0,bookE m A B,meanF_self (Int.le_refl _) (by omega) (by omega),fun V k=>stat_no V L m N A B (R.later k) I.ok hE,fun V R' r rel rr ok=>?_⟩
    have:=rstat_no V R' r A B rr (by rw [book_same rel];exact hE)
    rw [book_same rel] at this
    exact this

theorem stat_at (h:Stands B0 p K s w) (k:Nat) (hkn:k<s.n) (o:OpV) (ra:Option Addr) (rn rc:Nat) (hrv:o.rv = .slice ra rn rc) (hk:o.kd=12) (W:World) (kW:Kep non w W) :
    Calls Tryz.prog 17 #[.pointer (some ⟨p,0,none⟩),.agg #[.pointer (some ⟨(s.L k).x,0,none⟩),.pointer (some ⟨(s.R k).c,0,none⟩)],.agg o.cells] W fun e w'=>e = .returned (.bool true)∧StepPost 0 0 w B0 p K s w':=by
  have hW:=h.later kW
  have F:=hW.fit k hkn
  obtain ⟨a,b,f,c,hf,S1,S2⟩:=stat_any W (s.L k) (s.m k) 20000000 o.A o.B (hW.rx k hkn) F.inv
  exact wait_12 W p _ _ _ o ra rn rc hrv hk a b f c (s.m k).ho hf (hide fun V kV=>StepPost.same h (kW.trans kV)) (hide S1) (hide fun V kV=>S2 V (s.R k) (s.r k) F.rel ((hW.rc k hkn).later kV) F.rok) (hide fun V kV=>house_any V (s.L k) (s.m k) ((hW.rx k hkn).later kV)) (hide fun V kV=>by
    have:=rhouse_any V (s.R k) (s.r k) ((hW.rc k hkn).later kV)
    rwa [F.rel.ho] at this)
end

theorem ids_eq:∀ (a b:List Od),a.Perm b→(a.Pairwise fun x y=>x.id≤y.id)→(b.Pairwise fun x y=>x.id<y.id)→a=b
  | [],b,hp,_,_=>(List.nil_perm.1 hp).symm
  | x :: a,[],hp,_,_=>absurd (List.perm_nil.1 hp) (by simp)
  | x :: a,y :: b,hp,h1,h2=>by
    obtain ⟨a1,a2⟩:=List.pairwise_cons.1 h1
    obtain ⟨b1,b2⟩:=List.pairwise_cons.1 h2
    have e:x=y:=by
      rcases List.mem_cons.1 (hp.mem_iff.1 (List.mem_cons_self (a:=x))) with q | q
      · exact q
      · rcases List.mem_cons.1 (hp.mem_iff.2 (List.mem_cons_self (a:=y))) with q2 | q2
        · exact q2.symm
        · have:=b1 x q
          have:=a1 y q2
          omega
    subst e
    rw [ids_eq a b hp.cons_inv a2 b2]

theorem orders_at {B0 p:Nat} {K:Int} {s:Sta} {w:World} (h:Stands B0 p K s w) (k:Nat) (hkn:k<s.n) (hal:(s.bl 3).length≤4000000) (A:Int) (W:World) (kW:Kep non w W) :
    Calls Tryz.prog 56 #[.pointer (some ⟨(s.L k).x,0,none⟩),.int .i64 A] W fun e w1=>∃ v c,e = .returned (.tuple #[v,.int .i64 c])∧Kep non W w1∧Calls Tryz.prog 57 #[.pointer (some ⟨(s.R k).c,0,none⟩),.int .i64 A] w1 fun e w2=>∃ u ls,e = .returned (.tuple #[u,.int .i64 c]) ∧
      w2.ownsRow 0 40 8 v (List.length ls) (rdCells ls)∧w2.ownsRow 0 40 8 u (List.length ls) (rdCells ls)∧List.length ls≤60∧∀ W',Kep non w2 W'→Calls Tryz.prog 58 #[.pointer (some ⟨p,1,none⟩),v] W' fun e w3=>e = .returned (.tuple #[])∧StepPost 0 0 w B0 p K s w3:=by
  have hW:=h.later kW
  have F:=hW.fit k hkn
  have ok:=F.inv.ok
  refine (orders_any W (s.L k) (s.m k) 20000000 A (hW.rx k hkn) ok).mono ?_
  rintro e w1 ⟨k1,P⟩
  have fin:∀ (w2:World) (v:Value) (ls:List Od),Kep non w1 w2→w2.ownsRow 0 40 8 v ls.length (rdCells ls)→ls.length≤60→(∀ b,v.ownBlock=some b→W.heap.size≤b∧b<w2.heap.size)→∀ W',Kep non w2 W'→Calls Tryz.prog 58 #[.pointer (some ⟨p,1,none⟩),v] W' fun e w3=>e = .returned (.tuple #[])∧StepPost 0 0 w B0 p K s w3:=fun w2 v ls k2 row l60 hb W' k'=>by
    obtain ⟨cc,hl⟩:=LRow.of_row (ownsRow_kep row k' (fun _ _ q=>q))
    have z:=k'.size
    refine (lay_orders_at (hW.later ((k1.trans k2).trans k')) v _ cc hl (by omega) (fresh_out hW fun b q=>⟨(hb b q).1,by have:=(hb b q).2;omega⟩) hal).mono ?_
    rintro e w3 ⟨rfl,s',L⟩
    exact ⟨rfl,StepPost.after h (kW.trans ((k1.trans k2).trans k')) (by omega) (by omega) L.st L.go⟩
  rcases P with ⟨hn,rfl⟩ | ⟨hy,v,l,l1,l2,r1,rfl⟩
  · refine ⟨_,_,rfl,k1,(rorders_any w1 (s.R k) (s.r k) 0 ((hW.rc k hkn).later k1) F.rok A).mono ?_⟩
    rintro e w2 ⟨k2,Q⟩
    rcases Q with ⟨_,rfl⟩ | ⟨hy2,_⟩
    · exact ⟨_,[],rfl,World.ownsRow_nil _ _ _ _,World.ownsRow_nil _ _ _ _,by simp,fin w2 _ [] k2 (World.ownsRow_nil _ _ _ _) (by simp) (fun b hb=>by simp [Value.ownBlock] at hb)⟩
    · rw [F.rel.T] at hy2
      exact absurd hy2 hn
  · refine ⟨_,_,rfl,k1,(rorders_any w1 (s.R k) (s.r k) 0 ((hW.rc k hkn).later k1) F.rok A).mono ?_⟩
    rintro e w2 ⟨k2,Q⟩
    rcases Q with ⟨hn2,_⟩ | ⟨_,u,r2,rfl⟩
    · rw [F.rel.T] at hn2
      exact absurd hy hn2
    · have pm:(ofT A (s.r k).wt).Perm (ofT A (s.m k).all):=F.rel.wt.filter _
      have el:l=ofT A (s.r k).wt:=ids_eq l _ (l1.trans pm.symm) l2 (F.rel.srt.sublist List.filter_sublist)
      subst el
      have l60:(ofT A (s.r k).wt).length≤60:=Nat.le_trans (ofT_len _ _) F.rok.w60
      have row:w2.ownsRow 0 40 8 v (ofT A (s.r k).wt).length (rdCells (ofT A (s.r k).wt)):=ownsRow_kep (ownsRow_mono r1 (Nat.zero_le _)) k2 (fun _ _ q=>q)
      have z2:=k2.size
      exact ⟨u,_,rfl,row,ownsRow_mono r2 (Nat.zero_le _),l60,fin w2 v _ k2 row l60 (fun b hb=>⟨(r1.lt b hb).1,by have:=(r1.lt b hb).2;omega⟩)⟩
end

section
open Go.RowKit

theorem steps14:Steps 14:=by
  intro w B0 p K s o hrv h hK hK2 hn hbl hM hk
  by_cases h8:o.kd≤8
  · exact steps8 w B0 p K s o hrv h hK hK2 hn hbl hM h8
  suffices q:Calls Tryz.prog 8 #[.pointer (some ⟨p,0,none⟩),.agg o.cells] w fun e w'=>e = .returned (.bool true)∧StepPost 0 0 w B0 p K s w' by
    refine q.mono ?_
    rintro e w' ⟨rfl,P⟩
    exact ⟨rfl,P.wide (by omega) (by omega)⟩
  obtain ⟨ra,rn,rc,hf⟩:=hrv.form
  by_cases hn0:s.n=0
  · obtain ⟨pa,pc,hpv⟩:=row_form h.rps
    have c0:=h.c0.cell
    rw [hpv,hn0] at c0
    exact step_none w p _ o ra rn rc hf pa pc c0 (by omega) (hide fun W k=>StepPost.same h k)
  obtain ⟨k,hpk,hkn⟩:=pick_fn o.M s.n hM.1 hM.2 (by omega) (by omega)
  obtain ⟨pb,pc,c0,x0,x1⟩:=h.at k hkn
  have OA:OpAt w p o (s.L k).x (s.R k).c:=⟨⟨ra,rn,rc,hf⟩,pb,pc,s.n,k,c0,x0,x1,hkn,hpk⟩
  have hc:o.kd=9∨o.kd=10∨o.kd=11∨o.kd=12∨o.kd=13∨o.kd=14:=by omega
  rcases hc with q | q | q | q | q | q
  · exact step_kind9 w p _ o _ _ OA q (hide fun W kW=>place_at h k hkn hK2 (by have:=hbl 1;omega) o.od W kW)
  · refine step_kind10 w p _ o _ _ OA q (hide fun W kW=>?_)
    exact wait_10 W p _ _ _ o ra rn rc hf q (hide fun V kV=>book_at h k hkn (by have:=hbl 2;omega) o.A o.B V (kW.trans kV))
  · refine step_kind11 w p _ o _ _ OA q (hide fun W kW=>?_)
    exact wait_11 W p _ _ _ o ra rn rc hf q (hide fun V kV=>orders_at h k hkn (by have:=hbl 3;omega) o.A V (kW.trans kV))
  · exact step_kind12 w p _ o _ _ OA q (hide fun W kW=>stat_at h k hkn o ra rn rc hf q W kW)
  · exact step_kind13 w p _ o _ _ OA q (hide fun W kW=>cancel_at h k hkn o.A o.B W kW)
  · exact step_kind14 w p _ o _ _ OA q (hide fun W kW=>change_at h k hkn hK2 (by have:=hbl 1;omega) o.A o.B o.C o.D W kW)
end

end Go.Proofs.YtcfoobhihhndjaaGreat
