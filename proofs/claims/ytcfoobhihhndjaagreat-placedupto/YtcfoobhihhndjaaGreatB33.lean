
import Derived.BigQuiet
import Derived.Deep.QuietTactic
import Derived.Test.YtcfoobhihhndjaaGreatB31
import Derived.Test.YtcfoobhihhndjaaGreatB32
namespace Go.Proofs.YtcfoobhihhndjaaGreat

section
open Go.RowKit

theorem pick_fn (c:Int) (n:Nat) (h0:-9223372036854775808≤c) (h1:c≤9223372036854775807) (hn:1≤n) (hn2:n≤10000000):∃ k:Nat,(∀ w:World,Calls Tryz.prog 12 #[.int .i64 c,.int .i64 n] w fun e w'=>e = .returned (.int .i64 k)∧w'=w)∧k<n:=by
  by_cases hc:c<0
  · obtain ⟨j,hj⟩:=Int.eq_ofNat_of_zero_le (by omega:0 ≤ -(c+1))
    have HJ:=hide (show c+1 = -(j:Int) by omega)
    clear hj
    refine ⟨j % n,fun w=>?_,Nat.mod_lt _ hn⟩
    go_enter Tryz.func12,Tryz.ntmps12
    go_wp2
    go_ret
    refine ⟨ret_int ?_,rfl⟩
    rw [HJ.out,Int.neg_tmod,Int.neg_neg,Int.tmod_eq_emod_of_nonneg (by omega),Int.natCast_emod]
  · obtain ⟨c,rfl⟩:=Int.eq_ofNat_of_zero_le (by omega:0≤c)
    refine ⟨c % n,fun w=>?_,Nat.mod_lt _ hn⟩
    go_enter Tryz.func12,Tryz.ntmps12
    go_wp2
    go_ret
    exact ⟨ret_int rfl,rfl⟩

set_option maxRecDepth 100000 in
set_option maxHeartbeats 1000000 in
theorem lent_nil (w:World):Calls Tryz.prog 26 #[.slice none 0 0] w fun e w'=>e = .returned (.slice none 0 0)∧w'=w:=by
  have hnil:=fun (w:World) (a:Option Addr) (n c:Nat)=>Lib.run_eql_slice_nil (P:=Tryz.prog) w 38 3 a n c 0 0 Tryz.underlying38
  go_enter Tryz.func26,Tryz.ntmps26
  go_wp2
  go_ret
  exact ⟨rfl,rfl⟩

def Lies (w:World) (a:Addr) (rs:List Int):Prop:=∀ i x,rs[i]? = some x→w.cell? (a.add i)=some (.int .i64 x)

theorem lies_news {w:World} {a:Addr} {rs:List Int} (h:Lies w a rs):∀ j u,(rs.map (Value.int .i64))[j]? = some u→w.cell? (a.add j)=some u:=by
  intro j u hu
  simp only [List.getElem?_map,Option.map_eq_some_iff] at hu
  obtain ⟨x,hx,rfl⟩:=hu
  exact h j x hx

def nines (k:Nat):List Int:=(List.range k).map fun i:Nat=>900+(i:Int)
theorem nines_succ (k:Nat):nines (k+1)=nines k ++ [900+(k:Int)]:=by simp [nines,List.range_succ]

set_option maxRecDepth 100000 in
set_option maxHeartbeats 1000000 in
theorem lent_some (w:World) (a:Addr) (rc:Nat) (rs:List Int) (hc:Lies w a rs) (hn:rs.length≤2000000) :
    Calls Tryz.prog 26 #[.slice (some a) rs.length rc] w fun e w'=>∃ gb cap,e = .returned (.slice (some ⟨gb,0,none⟩) rs.length cap)∧Kep non w w' ∧
      w'.ownsRow w.heap.size 3 1 (.slice (some ⟨gb,0,none⟩) (rs.length+8) cap) (rs.length+8) ((rs ++ nines 8).map (.int .i64)):=by
  have hnil:=fun (w:World) (a:Option Addr) (n c:Nat)=>Lib.run_eql_slice_nil (P:=Tryz.prog) w 38 3 a n c 0 0 Tryz.underlying38
  obtain ⟨i3,hi3,hz30,hz31,hz32⟩:=info_parts infoInt
  have HC:=hide hc
  clear hc
  go_enter Tryz.func26,Tryz.ntmps26
  go_wp2_with (at_builtin;(refine wpList_append_own _ rfl _ _ _ rfl w.heap.size 3 i3 _ 1 8 Tryz.underlying38 hi3 hz30 hz31 hz32 rfl (by omega) _ 0 [] rfl (World.ownsRow_nil _ _ _ _) a rs.length rc (rs.map (.int .i64)) rfl (by simp) (by exact lies_news HC.out) (ints_one rs) (by simp only [maxLen];omega) (by omega) (Nat.le_refl _) ?_))
  intro v1 w1 hown1 hgrow1 hv1
  clear hv1
  have K1:Kep non w w1:=(Kep.refl _ _).grown hgrow1 (by simp [Value.ownBlock])
  clear hgrow1
  go_wp2
  go_loopw [3,4] (fun g i wr=>∃ k:Nat,k≤8∧i = .int .i64 k∧Kep non w wr∧wr.ownsRow w.heap.size 3 1 g (rs.length+k) ((rs ++ nines k).map (.int .i64))) (fun _ i _=>8 - (intOf i).toNat)
  case atStart=>exact ⟨0,by omega,rfl,K1,by simpa [nines] using hown1⟩
  case round =>
    clear hown1 K1
    obtain ⟨k,hk,rfl,hkp,hown⟩:=hrel
    have sz:=hkp.size
    by_cases hlt:k<8
    · go_wp2_with (at_builtin;(refine wpList_append_own _ rfl _ _ _ rfl w.heap.size 3 i3 _ 1 8 Tryz.underlying38 hi3 hz30 hz31 hz32 rfl (by omega) _ (rs.length+k) _ rfl (by exact hown.alloc _) ⟨wr.heap.size,0,none⟩ 1 1 [_] rfl rfl (by exact cell_one_new _ _ _) (by simp [Value.oneCell']) (by simp only [maxLen];omega) (by omega) (by simp;omega) ?_))
      intro v2 w2 hown2 hgrow2 _
      have K2:Kep non w w2:=(hkp.alloc _).grown hgrow2 (fun b hb=>.inr (hown.lt b hb).1)
      go_wp2
      refine ⟨⟨k+1,by omega,by go_num,K2,?_⟩,by simp [intOf];omega⟩
      simpa [nines_succ,Nat.add_assoc] using hown2
    · have e8:k=8:=by omega
      subst e8
      obtain ⟨gb,cap,rfl,_,_⟩:=hown.form (by omega)
      have hcap:rs.length+8≤cap:=by
        rcases hown.2 with ⟨q,_⟩ | ⟨_,_,_,q,_,_,q2,_⟩
        · simp at q
        · simp only [Value.slice.injEq,true_and] at q
          rw [q.2];exact q2
      go_wp2
      go_ret
      exact ⟨gb,cap,by simp,hkp,hown⟩

set_option maxRecDepth 100000 in
set_option maxHeartbeats 1000000 in
theorem returned_nil (w:World) (p:Nat) (gv:Value):Calls Tryz.prog 29 #[.pointer (some ⟨p,0,none⟩),gv,.slice none 0 0] w fun e w'=>e = .returned (.bool true)∧w'=w:=by
  have hnil:=fun (w:World) (a:Option Addr) (n c:Nat)=>Lib.run_eql_slice_nil (P:=Tryz.prog) w 38 3 a n c 0 0 Tryz.underlying38
  go_enter Tryz.func29,Tryz.ntmps29
  go_wp2
  go_ret
  exact ⟨rfl,rfl⟩

theorem Laid.before {i z:Nat} {T:TypeId} {w w1 w':World} {p B0:Nat} {v:Value} {vs:List Value} {l:Value} (k:Kep non w w1) (hz:w1.heap.size=w.heap.size) (h:Laid i T z w1 p B0 v vs l w'):Laid i T z w p B0 v vs l w':=by
  obtain ⟨v',nv,h1,h2,h3,h4,h5,h6⟩:=h
  rw [hz] at h3 h6
  exact ⟨v',nv,h1,h2,h3,fun j u hj hu=>h4 j u hj (hu.kep k (fun q=>q)),k.none.trans h5,h6⟩

set_option maxRecDepth 100000 in
set_option maxHeartbeats 1000000 in
theorem returned_some (w:World) (p B0 base:Nat) (ev:Value) (es:List Value) (b off rc gb cap:Nat) (rs:List Int) (hc:∀ i x,rs[i]? = some x→w.cell? ⟨b,off+i,none⟩=some (.int .i64 x)) (hn:rs.length≤2000000)
    (hg:w.ownsRow base 3 1 (.slice (some ⟨gb,0,none⟩) (rs.length+8) cap) (rs.length+8) ((rs ++ nines 8).map (.int .i64)))
    (hc5:Own w ⟨p,5,none⟩ ev) (hev:w.ownsRow B0 126 1 ev es.length es) (hb0:B0≤w.heap.size) (hlp:gb≠p) (hle:ev.ownBlock≠some gb) (hep:ev.ownBlock≠some p) (hne:es.length≤4000000) :
    Calls Tryz.prog 29 #[.pointer (some ⟨p,0,none⟩),.slice (some ⟨gb,0,none⟩) rs.length cap,.slice (some ⟨b,off,none⟩) rs.length rc] w fun e w'=>e = .returned (.bool true)∧Laid 5 126 1 w p B0 ev es (.slice (some ⟨gb,0,none⟩) rs.length cap) w':=by
  have hnil:=fun (w:World) (a:Option Addr) (n c:Nat)=>Lib.run_eql_slice_nil (P:=Tryz.prog) w 38 3 a n c 0 0 Tryz.underlying38
  have hcap:rs.length+8≤cap:=by
    rcases hg.2 with ⟨q,_⟩ | ⟨_,_,_,q,_,_,q2,_⟩
    · simp at q
    · simp only [Value.slice.injEq,true_and] at q
      rw [q.2];exact q2
  have hl:LRow w (.slice (some ⟨gb,0,none⟩) rs.length cap) 1 rs.length cap:=.inr ⟨gb,rfl,by omega,there_row (e:=3) (xs:=(rs ++ nines 8).map (.int .i64)) (n:=rs.length+8) (by
    refine ⟨hg.1,?_⟩
    rcases hg.2 with q | ⟨a,b,d,q,_,r⟩
    · exact .inl q
    · exact .inr ⟨a,b,d,q,Nat.zero_le _,r⟩)⟩
  have HI:Hid (∀ nd,Calls Tryz.prog 82 #[.pointer (some ⟨p,1,none⟩),.slice (some ⟨gb,0,none⟩) rs.length cap] (w.drewN nd) fun e w'=>e = .returned (.tuple #[])∧Laid 5 126 1 w p B0 ev es (.slice (some ⟨gb,0,none⟩) rs.length cap) w'):=hide fun nd=>by
    have kd:Kep non w (w.drewN nd):=(Kep.refl _ _).drewN nd
    have hle':∀ b,(Value.slice (some ⟨gb,0,none⟩) rs.length cap).ownBlock=some b→ev.ownBlock≠some b:=fun b hb=>by
      have e:gb=b:=by simpa [Value.ownBlock] using hb
      subst e
      exact hle
    refine (lay_ints (w.drewN nd) p B0 ev es _ rs.length cap (hc5.kep kd (fun q=>q)) (ownsRow_kep hev kd (fun _ _ q=>q)) hb0 (hl.ext (row:=none) (.of_keeps kd)) (by simp [Value.ownBlock,hlp]) hle' hep hne hn).mono ?_
    rintro e w' ⟨rfl,h⟩
    exact ⟨rfl,h.before kd rfl⟩
  have gc:Hid (∀ i x,(rs ++ nines 8)[i]? = some x→w.cell? ⟨gb,i,none⟩=some (.int .i64 x)):=hide fun i x hx=>by
    have hi:i<rs.length+8:=by have:=(List.getElem?_eq_some_iff.1 hx).1;simpa [nines] using this
    rw [hg.cellAt i (by omega)]
    simp only [List.getElem?_map,hx]
    rfl
  have HC:=hide hc
  clear hc hc5 hev hg hl
  go_enter Tryz.func29,Tryz.ntmps29
  go_wp2
  go_loopw [8,9] (fun o i wr=>∃ k:Nat,k≤rs.length∧i = .int .i64 k∧o = .bool true∧∃ n,wr=w.drewN n) (fun _ i _=>rs.length - (intOf i).toNat)
  case atStart=>exact ⟨0,by omega,rfl,rfl,0,rfl⟩
  case round =>
    obtain ⟨k,hk,rfl,rfl,nd,rfl⟩:=hrel
    by_cases hlt:k<rs.length
    · have q1:=HC.out k rs[k] (by simp)
      have q2:=gc.out k rs[k] (by rw [List.getElem?_append_left hlt];simp)
      generalize rs[k]=x at *
      go_wp2
      go_quiet (fail)
      go_wp2
      exact ⟨⟨k+1,by omega,by go_num,rfl,_,rfl⟩,by simp [intOf];omega⟩
    · go_wp2
      go_loopw [8,10] (fun o i wr=>∃ k:Nat,k≤8∧i = .int .i64 k∧o = .bool true∧∃ n,wr=w.drewN n) (fun _ i _=>8 - (intOf i).toNat)
      case atStart=>exact ⟨0,by omega,rfl,rfl,nd,rfl⟩
      case round =>
        obtain ⟨j,hj,rfl,rfl,nd',rfl⟩:=hrel
        by_cases hlt8:j<8
        · have q2:=gc.out (rs.length+j) (900+(j:Int)) (by rw [List.getElem?_append_right (by omega)];simp [nines,hlt8])
          go_wp2
          exact ⟨⟨j+1,by omega,by go_num,rfl,_,rfl⟩,by simp [intOf];omega⟩
        · go_wp2_with fail
          refine (HI.out nd').mono ?_
          rintro e w' ⟨rfl,hp⟩
          go_wp2
          go_ret
          exact ⟨rfl,hp⟩

set_option maxRecDepth 100000 in
set_option maxHeartbeats 1000000 in
theorem returned_empty (w:World) (p B0 base:Nat) (ev:Value) (es:List Value) (a:Addr) (gb cap:Nat)
    (hg:w.ownsRow base 3 1 (.slice (some ⟨gb,0,none⟩) 8 cap) 8 ((nines 8).map (.int .i64)))
    (hc5:Own w ⟨p,5,none⟩ ev) (hev:w.ownsRow B0 126 1 ev es.length es) (hb0:B0≤w.heap.size) (hlp:gb≠p) (hle:ev.ownBlock≠some gb) (hep:ev.ownBlock≠some p) (hne:es.length≤4000000) :
    Calls Tryz.prog 29 #[.pointer (some ⟨p,0,none⟩),.slice (some ⟨gb,0,none⟩) 0 cap,.slice (some a) 0 0] w fun e w'=>e = .returned (.bool true)∧Laid 5 126 1 w p B0 ev es (.slice (some ⟨gb,0,none⟩) 0 cap) w':=by
  have hnil:=fun (w:World) (a:Option Addr) (n c:Nat)=>Lib.run_eql_slice_nil (P:=Tryz.prog) w 38 3 a n c 0 0 Tryz.underlying38
  have hcap:8≤cap:=by
    rcases hg.2 with ⟨q,_⟩ | ⟨_,_,_,q,_,_,q2,_⟩
    · simp at q
    · simp only [Value.slice.injEq,true_and] at q
      rw [q.2];exact q2
  have hl:LRow w (.slice (some ⟨gb,0,none⟩) 0 cap) 1 0 cap:=.inr ⟨gb,rfl,by omega,there_row (e:=3) (xs:=(nines 8).map (.int .i64)) (n:=8) (by
    refine ⟨hg.1,?_⟩
    rcases hg.2 with q | ⟨a,b,d,q,_,r⟩
    · exact .inl q
    · exact .inr ⟨a,b,d,q,Nat.zero_le _,r⟩)⟩
  have HI:Hid (∀ nd,Calls Tryz.prog 82 #[.pointer (some ⟨p,1,none⟩),.slice (some ⟨gb,0,none⟩) 0 cap] (w.drewN nd) fun e w'=>e = .returned (.tuple #[])∧Laid 5 126 1 w p B0 ev es (.slice (some ⟨gb,0,none⟩) 0 cap) w'):=hide fun nd=>by
    have kd:Kep non w (w.drewN nd):=(Kep.refl _ _).drewN nd
    have hle':∀ b,(Value.slice (some ⟨gb,0,none⟩) 0 cap).ownBlock=some b→ev.ownBlock≠some b:=fun b hb=>by
      have e:gb=b:=by simpa [Value.ownBlock] using hb
      subst e
      exact hle
    refine (lay_ints (w.drewN nd) p B0 ev es _ 0 cap (hc5.kep kd (fun q=>q)) (ownsRow_kep hev kd (fun _ _ q=>q)) hb0 (hl.ext (row:=none) (.of_keeps kd)) (by simp [Value.ownBlock,hlp]) hle' hep hne (by omega)).mono ?_
    rintro e w' ⟨rfl,h⟩
    exact ⟨rfl,h.before kd rfl⟩
  have gc:Hid (∀ i x,(nines 8)[i]? = some x→w.cell? ⟨gb,i,none⟩=some (.int .i64 x)):=hide fun i x hx=>by
    have hi:i<8:=by have:=(List.getElem?_eq_some_iff.1 hx).1;simpa [nines] using this
    rw [hg.cellAt i (by omega)]
    simp only [List.getElem?_map,hx]
    rfl
  clear hc5 hev hg hl
  go_enter Tryz.func29,Tryz.ntmps29
  go_wp2
  go_loopw [8,9] (fun o i wr=>∃ k:Nat,k≤0∧i = .int .i64 k∧o = .bool true∧∃ n,wr=w.drewN n) (fun _ i _=>0 - (intOf i).toNat)
  case atStart=>exact ⟨0,by omega,rfl,rfl,0,rfl⟩
  case round =>
    obtain ⟨k,hk,rfl,rfl,nd,rfl⟩:=hrel
    by_cases hlt:k<0
    · omega
    · go_wp2
      go_loopw [8,10] (fun o i wr=>∃ k:Nat,k≤8∧i = .int .i64 k∧o = .bool true∧∃ n,wr=w.drewN n) (fun _ i _=>8 - (intOf i).toNat)
      case atStart=>exact ⟨0,by omega,rfl,rfl,nd,rfl⟩
      case round =>
        obtain ⟨j,hj,rfl,rfl,nd',rfl⟩:=hrel
        by_cases hlt8:j<8
        · have q2:=gc.out j (900+(j:Int)) (by simp [nines,hlt8])
          go_wp2
          exact ⟨⟨j+1,by omega,by go_num,rfl,_,rfl⟩,by simp [intOf];omega⟩
        · go_wp2_with fail
          refine (HI.out nd').mono ?_
          rintro e w' ⟨rfl,hp⟩
          go_wp2
          go_ret
          exact ⟨rfl,hp⟩
end

section
open Go.RowKit

theorem infoPair:(Tryz.prog.info? 48).map (fun i=>(i.zero,i.size,i.bytes))=some (some (.agg #[.pointer none,.pointer none]),2,16):=by kernel_rfl

set_option maxRecDepth 100000 in
set_option maxHeartbeats 1000000 in
theorem made_nil (w:World) (p:Nat) (o:OpV) (hrv:o.rv = .slice none 0 0) :
    Calls Tryz.prog 11 #[.pointer (some ⟨p,0,none⟩),.agg o.cells] w fun e w'=>e = .returned (.bool true)∧Kep non w w':=by
  obtain ⟨kd,M,A,B,C,D,E,rv,o0,o1,o2,o3,o4,o5,o6,o7⟩:=o
  simp only [] at hrv
  subst hrv
  have hno:sizeOk A B []=false:=by simp [sizeOk,fitB]
  simp only [OpV.cells]
  go_enter Tryz.func11,Tryz.ntmps11
  go_wp2_with fail
  refine (lent_nil _).mono ?_
  rintro e w1 ⟨rfl,hw⟩
  subst hw
  go_wp2_with fail
  refine (new_no _ A B _ [] (.inl ⟨rfl,rfl⟩) (by simp) hno).mono ?_
  rintro e w1 ⟨rfl,hw⟩
  subst hw
  go_wp2_with fail
  refine (refNew_no _ A B _ [] (.inl ⟨rfl,rfl⟩) (by simp) hno).mono ?_
  rintro e w1 ⟨rfl,hw⟩
  subst hw
  go_wp2_with fail
  refine (returned_nil _ p _).mono ?_
  rintro e w1 ⟨rfl,hw⟩
  subst hw
  go_wp2
  go_ret
  exact ⟨rfl,(Kep.refl _ _).alloc _⟩

theorem lies_of {w:World} {b off:Nat} {rs:List Int} (h:∀ i x,rs[i]? = some x→w.cell? ⟨b,off+i,none⟩=some (.int .i64 x)):Lies w ⟨b,off,none⟩ rs:=fun i x q=>by
  have hadd:(⟨b,off,none⟩ : Addr).add i=⟨b,off+i,none⟩:=by unfold Addr.add;split <;> simp_all
  rw [hadd]
  exact h i x q

set_option maxRecDepth 100000 in
set_option maxHeartbeats 1000000 in
theorem made_no (w:World) (p B0:Nat) (ev:Value) (es:List Value) (o:OpV) (rb off rc:Nat) (rs:List Int) (hrv:o.rv = .slice (some ⟨rb,off,none⟩) rs.length rc) (hc:∀ i x,rs[i]? = some x→w.cell? ⟨rb,off+i,none⟩=some (.int .i64 x)) (hn:rs.length≤1048576)
    (hc5:Own w ⟨p,5,none⟩ ev) (hev:w.ownsRow B0 126 1 ev es.length es) (hb0:B0≤w.heap.size) (hep:ev.ownBlock≠some p) (hne:es.length≤4000000) (hno:sizeOk o.A o.B rs=false) :
    Calls Tryz.prog 11 #[.pointer (some ⟨p,0,none⟩),.agg o.cells] w fun e w'=>e = .returned (.bool true)∧LaidAt 5 126 1 w p B0 ev es w':=by
  obtain ⟨kd,M,A,B,C,D,E,rv,o0,o1,o2,o3,o4,o5,o6,o7⟩:=o
  simp only [] at hrv hno
  subst hrv
  have HC:=hide hc
  have H5:=hide hc5
  have HE:=hide hev
  have hpw:p<w.heap.size:=hc5.lt
  have hew:∀ b,ev.ownBlock=some b→b<w.heap.size:=fun b hb=>(hev.lt b hb).2
  clear hc hc5 hev
  simp only [OpV.cells]
  go_enter Tryz.func11,Tryz.ntmps11
  go_wp2_with fail
  have kb:Kep non w (w.alloc (.cells #[.int .i64 kd,.int .i64 M,.int .i64 A,.int .i64 B,.int .i64 C,.int .i64 D,.int .i64 E,.slice (some ⟨rb,off,none⟩) rs.length rc,.int .i64 o0,.int .i64 o1,.int .i64 o2,.int .i64 o3,.int .i64 o4,.int .i64 o5,.int .i64 o6,.int .i64 o7] 42)):=(Kep.refl _ _).alloc _
  have hb:=heap_alloc_new w (.cells #[.int .i64 kd,.int .i64 M,.int .i64 A,.int .i64 B,.int .i64 C,.int .i64 D,.int .i64 E,.slice (some ⟨rb,off,none⟩) rs.length rc,.int .i64 o0,.int .i64 o1,.int .i64 o2,.int .i64 o3,.int .i64 o4,.int .i64 o5,.int .i64 o6,.int .i64 o7] 42)
  refine (lent_some _ ⟨rb,off,none⟩ rc rs (lies_of fun i x hx=>kb.cell (HC.out i x hx) (fun q=>q)) (by omega)).mono ?_
  rintro e w1 ⟨gb,cap,rfl,k1,r1⟩
  have bl:w1.heap[w.heap.size]? = _:=(k1.block w.heap.size (by simp) (fun q=>q)).trans hb
  have p2:w1.cell? ⟨w.heap.size,2,none⟩=some (.int .i64 A):=cell_of_row _ _ 2 _ _ _ bl
  have p3:w1.cell? ⟨w.heap.size,3,none⟩=some (.int .i64 B):=cell_of_row _ _ 3 _ _ _ bl
  have p7:w1.cell? ⟨w.heap.size,7,none⟩=some (.slice (some ⟨rb,off,none⟩) rs.length rc):=cell_of_row _ _ 7 _ _ _ bl
  clear hb bl
  have kk:Kep non w w1:=kb.trans k1
  have s1:=k1.size
  have hgb:=r1.lt gb rfl
  simp only [World.size_alloc] at s1 hgb
  have HR1:=hide r1
  have ig:IntsAt w1 (.slice (some ⟨gb,0,none⟩) rs.length cap) rs:=.inr ⟨gb,0,cap,rfl,fun i x hx=>by
    have hi:i<rs.length:=(List.getElem?_eq_some_iff.1 hx).1
    rw [Nat.zero_add,r1.cellAt i (by omega),List.getElem?_map,List.getElem?_append_left hi,hx]
    rfl⟩
  have il:IntsAt w1 (.slice (some ⟨rb,off,none⟩) rs.length rc) rs:=.inr ⟨rb,off,rc,rfl,fun i x hx=>kk.cell (HC.out i x hx) (fun q=>q)⟩
  have HIG:=hide ig
  have HIL:=hide il
  clear r1 k1 ig il kb
  go_wp2_with fail
  refine (new_no _ A B _ rs HIG.out hn hno).mono ?_
  rintro e w2 ⟨rfl,hw⟩
  subst hw
  go_wp2_with fail
  refine (refNew_no _ A B _ rs HIL.out hn hno).mono ?_
  rintro e w2 ⟨rfl,hw⟩
  subst hw
  go_wp2_with fail
  refine (returned_some w2 p B0 _ ev es rb off rc gb cap rs (fun i x hx=>kk.cell (HC.out i x hx) (fun q=>q)) (by omega) HR1.out (H5.out.kep kk (fun q=>q)) (ownsRow_kep HE.out kk (fun _ _ q=>q)) (by omega) (by omega) (fun h=>by have:=hew gb h;omega) hep hne).mono ?_
  rintro e w3 ⟨rfl,hp⟩
  go_wp2
  go_ret
  refine ⟨rfl,w2,_,kk,fun b hb=>?_,hp⟩
  have:gb=b:=by simpa [Value.ownBlock] using hb
  omega

set_option maxRecDepth 100000 in
set_option maxHeartbeats 1000000 in
theorem refNew_empty (w:World) (t g:Int) (a:Option Addr) (c:Nat) :
    Calls Tryz.prog 28 #[.int .i64 t,.int .i64 g,.slice a 0 c] w fun e w'=>e = .returned (.tuple #[.pointer none,.int .i64 1])∧w'=w:=by
  go_enter Tryz.func28,Tryz.ntmps28
  go_wp2
  all_goals
    go_loop [8,9] (fun ok i=>i = .int .i64 0∧ok = .bool false) (fun _ _=>0)
    case atStart=>exact ⟨rfl,by first | rfl | simp⟩
    case round =>
      obtain ⟨rfl,rfl⟩:=hrel
      go_wp2
      go_ret2
      exact ⟨rfl,rfl⟩

set_option maxRecDepth 100000 in
set_option maxHeartbeats 1000000 in
theorem made_empty (w:World) (p B0:Nat) (ev:Value) (es:List Value) (o:OpV) (a:Addr) (hrv:o.rv = .slice (some a) 0 0)
    (hc5:Own w ⟨p,5,none⟩ ev) (hev:w.ownsRow B0 126 1 ev es.length es) (hb0:B0≤w.heap.size) (hep:ev.ownBlock≠some p) (hne:es.length≤4000000) :
    Calls Tryz.prog 11 #[.pointer (some ⟨p,0,none⟩),.agg o.cells] w fun e w'=>e = .returned (.bool true)∧LaidAt 5 126 1 w p B0 ev es w':=by
  obtain ⟨kd,M,A,B,C,D,E,rv,o0,o1,o2,o3,o4,o5,o6,o7⟩:=o
  simp only [] at hrv
  subst hrv
  have HNO:Hid (sizeOk A B []=false):=hide (by simp [sizeOk,fitB])
  have H5:=hide hc5
  have HE:=hide hev
  have hpw:p<w.heap.size:=hc5.lt
  have hew:∀ b,ev.ownBlock=some b→b<w.heap.size:=fun b hb=>(hev.lt b hb).2
  clear hc5 hev
  simp only [OpV.cells]
  go_enter Tryz.func11,Tryz.ntmps11
  go_wp2_with fail
  have kb:Kep non w (w.alloc (.cells #[.int .i64 kd,.int .i64 M,.int .i64 A,.int .i64 B,.int .i64 C,.int .i64 D,.int .i64 E,.slice (some a) 0 0,.int .i64 o0,.int .i64 o1,.int .i64 o2,.int .i64 o3,.int .i64 o4,.int .i64 o5,.int .i64 o6,.int .i64 o7] 42)):=(Kep.refl _ _).alloc _
  have hb:=heap_alloc_new w (.cells #[.int .i64 kd,.int .i64 M,.int .i64 A,.int .i64 B,.int .i64 C,.int .i64 D,.int .i64 E,.slice (some a) 0 0,.int .i64 o0,.int .i64 o1,.int .i64 o2,.int .i64 o3,.int .i64 o4,.int .i64 o5,.int .i64 o6,.int .i64 o7] 42)
  refine (lent_some _ a 0 [] (fun i x hx=>by simp at hx) (by simp)).mono ?_
  rintro e w1 ⟨gb,cap,rfl,k1,r1⟩
  simp only [List.length_nil,Nat.zero_add,List.nil_append] at r1 ⊢
  have bl:w1.heap[w.heap.size]? = _:=(k1.block w.heap.size (by simp) (fun q=>q)).trans hb
  have p2:w1.cell? ⟨w.heap.size,2,none⟩=some (.int .i64 A):=cell_of_row _ _ 2 _ _ _ bl
  have p3:w1.cell? ⟨w.heap.size,3,none⟩=some (.int .i64 B):=cell_of_row _ _ 3 _ _ _ bl
  have p7:w1.cell? ⟨w.heap.size,7,none⟩=some (.slice (some a) 0 0):=cell_of_row _ _ 7 _ _ _ bl
  clear hb bl
  have kk:Kep non w w1:=kb.trans k1
  have s1:=k1.size
  have hgb:=r1.lt gb rfl
  simp only [World.size_alloc] at s1 hgb
  have HR1:=hide r1
  have ig:IntsAt w1 (.slice (some ⟨gb,0,none⟩) 0 cap) []:=.inr ⟨gb,0,cap,rfl,fun i x hx=>by simp at hx⟩
  have HIG:=hide ig
  clear r1 k1 ig kb
  go_wp2_with fail
  refine (new_no _ A B _ [] HIG.out (by simp) HNO.out).mono ?_
  rintro e w2 ⟨rfl,hw⟩
  subst hw
  go_wp2_with fail
  refine (refNew_empty _ A B (some a) 0).mono ?_
  rintro e w2 ⟨rfl,hw⟩
  subst hw
  go_wp2_with fail
  refine (returned_empty w2 p B0 _ ev es a gb cap HR1.out (H5.out.kep kk (fun q=>q)) (ownsRow_kep HE.out kk (fun _ _ q=>q)) (by omega) (by omega) (fun h=>by have:=hew gb h;omega) hep hne).mono ?_
  rintro e w3 ⟨rfl,hp⟩
  go_wp2
  go_ret
  refine ⟨rfl,w2,_,kk,fun b hb=>?_,hp⟩
  have:gb=b:=by simpa [Value.ownBlock] using hb
  omega

def MadeY (w:World) (p B0:Nat) (ev psv:Value) (es pcs:List Value) (n T G:Nat) (rs:List Int) (w':World):Prop :=
  ∃ (L:PL) (R:RL) (psv' l:Value) (W3 w4:World),Kep non w W3∧PRep W3 L (newM T G rs)∧RRep W3 R (newR T G rs)∧(∀ b,L.X (newM T G rs) b→w.heap.size≤b)∧(∀ b,R.S b→w.heap.size≤b)∧(∀ b,L.X (newM T G rs) b→¬ R.S b) ∧
    (∀ b,l.ownBlock=some b→w.heap.size≤b∧b<W3.heap.size∧¬ L.X (newM T G rs) b∧¬ R.S b)∧Laid 5 126 1 W3 p B0 ev es l w4 ∧
    Own w' ⟨p,0,none⟩ psv'∧w'.ownsRow B0 48 2 psv' (n+1) (pcs ++ [.pointer (some ⟨L.x,0,none⟩),.pointer (some ⟨R.c,0,none⟩)])∧(psv'.ownBlock=psv.ownBlock∨∃ b,psv'.ownBlock=some b∧w4.heap.size≤b) ∧
    (∀ j v,j≠0→Own w4 ⟨p,j,none⟩ v→Own w' ⟨p,j,none⟩ v)∧Kep (fun b=>b=p∨psv.ownBlock=some b) w4 w'

set_option maxRecDepth 100000 in
set_option maxHeartbeats 1000000 in
theorem made_yes (w:World) (p B0:Nat) (ev psv:Value) (es pcs:List Value) (n:Nat) (o:OpV) (rb off rc:Nat) (rs:List Int) (hrv:o.rv = .slice (some ⟨rb,off,none⟩) rs.length rc) (hc:∀ i x,rs[i]? = some x→w.cell? ⟨rb,off+i,none⟩=some (.int .i64 x)) (hn:rs.length≤1048576)
    (hc5:Own w ⟨p,5,none⟩ ev) (hev:w.ownsRow B0 126 1 ev es.length es) (hb0:B0≤w.heap.size) (hep:ev.ownBlock≠some p) (hne:es.length≤4000000) (hyes:sizeOk o.A o.B rs=true)
    (hc0:Own w ⟨p,0,none⟩ psv) (hps:w.ownsRow B0 48 2 psv n pcs) (hpp:psv.ownBlock≠some p) (hpe:∀ b,psv.ownBlock=some b→ev.ownBlock≠some b) (hnn:n≤4000000) :
    Calls Tryz.prog 11 #[.pointer (some ⟨p,0,none⟩),.agg o.cells] w fun e w'=>e = .returned (.bool true)∧MadeY w p B0 ev psv es pcs n o.A.toNat o.B.toNat rs w':=by
  obtain ⟨pa,pc,hpv⟩:=row_form hps
  subst hpv
  obtain ⟨kd,M,A,B,C,D,E,rv,o0,o1,o2,o3,o4,o5,o6,o7⟩:=o
  simp only [] at hrv hyes ⊢
  have hab:0≤A∧0≤B:=by
    have h:=hyes
    simp only [sizeOk,inR,Bool.and_eq_true,decide_eq_true_eq] at h
    omega
  obtain ⟨A,rfl⟩:=Int.eq_ofNat_of_zero_le hab.1
  obtain ⟨B,rfl⟩:=Int.eq_ofNat_of_zero_le hab.2
  simp only [Int.toNat_natCast]
  clear hab
  subst hrv
  have HC:=hide hc
  have H5:=hide hc5
  have HE:=hide hev
  have H0:=hide hc0
  have HPS:=hide hps
  have hpsw:∀ b,(Value.slice pa n pc).ownBlock=some b→b<w.heap.size:=fun b hb=>(hps.lt b hb).2
  have hpw:p<w.heap.size:=hc5.lt
  have hew:∀ b,ev.ownBlock=some b→b<w.heap.size:=fun b hb=>(hev.lt b hb).2
  clear hc hc5 hev hc0 hps
  simp only [OpV.cells]
  go_enter Tryz.func11,Tryz.ntmps11
  go_wp2_with fail
  have kb:Kep non w (w.alloc (.cells #[.int .i64 kd,.int .i64 M,.int .i64 A,.int .i64 B,.int .i64 C,.int .i64 D,.int .i64 E,.slice (some ⟨rb,off,none⟩) rs.length rc,.int .i64 o0,.int .i64 o1,.int .i64 o2,.int .i64 o3,.int .i64 o4,.int .i64 o5,.int .i64 o6,.int .i64 o7] 42)):=(Kep.refl _ _).alloc _
  have hb:=heap_alloc_new w (.cells #[.int .i64 kd,.int .i64 M,.int .i64 A,.int .i64 B,.int .i64 C,.int .i64 D,.int .i64 E,.slice (some ⟨rb,off,none⟩) rs.length rc,.int .i64 o0,.int .i64 o1,.int .i64 o2,.int .i64 o3,.int .i64 o4,.int .i64 o5,.int .i64 o6,.int .i64 o7] 42)
  refine (lent_some _ ⟨rb,off,none⟩ rc rs (lies_of fun i x hx=>kb.cell (HC.out i x hx) (fun q=>q)) (by omega)).mono ?_
  rintro e w1 ⟨gb,cap,rfl,k1,r1⟩
  have bl:w1.heap[w.heap.size]? = _:=(k1.block w.heap.size (by simp) (fun q=>q)).trans hb
  have p2:w1.cell? ⟨w.heap.size,2,none⟩=some (.int .i64 A):=cell_of_row _ _ 2 _ _ _ bl
  have p3:w1.cell? ⟨w.heap.size,3,none⟩=some (.int .i64 B):=cell_of_row _ _ 3 _ _ _ bl
  have p7:w1.cell? ⟨w.heap.size,7,none⟩=some (.slice (some ⟨rb,off,none⟩) rs.length rc):=cell_of_row _ _ 7 _ _ _ bl
  clear hb bl
  have kk:Kep non w w1:=kb.trans k1
  have s1:=k1.size
  have hgb:=r1.lt gb rfl
  simp only [World.size_alloc] at s1 hgb
  have HR1:=hide r1
  have ig:IntsAt w1 (.slice (some ⟨gb,0,none⟩) rs.length cap) rs:=.inr ⟨gb,0,cap,rfl,fun i x hx=>by
    have hi:i<rs.length:=(List.getElem?_eq_some_iff.1 hx).1
    rw [Nat.zero_add,r1.cellAt i (by omega),List.getElem?_map,List.getElem?_append_left hi,hx]
    rfl⟩
  have il:IntsAt w1 (.slice (some ⟨rb,off,none⟩) rs.length rc) rs:=.inr ⟨rb,off,rc,rfl,fun i x hx=>kk.cell (HC.out i x hx) (fun q=>q)⟩
  have HIG:=hide ig
  have HIL:=hide il
  clear r1 k1 ig il kb
  go_wp2_with fail
  refine (new_yes _ A B _ rs HIG.out hyes).mono ?_
  rintro e w2 ⟨L,rfl,hp2,k2,hL⟩
  have p2':=k2.cell p2 (fun q=>q)
  have p3':=k2.cell p3 (fun q=>q)
  have p7':=k2.cell p7 (fun q=>q)
  have s2:=k2.size
  have HP2:=hide hp2
  have HL:=hide hL
  clear hp2 hL
  go_wp2_with fail
  refine (refNew_yes _ A B _ rs (HIL.out.kep k2) hyes).mono ?_
  rintro e w3 ⟨R,rfl,hr3,k3,hR⟩
  have p7'':=k3.cell p7' (fun q=>q)
  have s3:=k3.size
  have HR3:=hide hr3
  have HRR:=hide hR
  have k13:=k2.trans k3
  have k03:=kk.trans k13
  clear hr3 hR
  go_wp2_with fail
  refine (returned_some w3 p B0 _ ev es rb off rc gb cap rs (fun i x hx=>k03.cell (HC.out i x hx) (fun q=>q)) (by omega) (ownsRow_kep HR1.out k13 (fun _ _ q=>q)) (H5.out.kep k03 (fun q=>q)) (ownsRow_kep HE.out k03 (fun _ _ q=>q)) (by omega) (by omega) (fun h=>by have:=hew gb h;omega) hep hne).mono ?_
  rintro e w4 ⟨rfl,hp4⟩
  have HP4:=hide hp4
  obtain ⟨ev',nv,q1,q2,q3,q4,q5,q6⟩:=hp4
  have oo:=q4 0 _ (by decide) (H0.out.kep k03 (fun q=>q))
  have rps:=ownsRow_kep (ownsRow_kep HPS.out k03 (fun _ _ q=>q)) q5 (fun b hb q=>by
    rcases q with q | q | q
    · exact hpp (by rw [hb,q])
    · have:gb=b:=by simpa [Value.ownBlock] using q
      have:=hpsw b hb
      omega
    · exact hpe b hb q)
  have s4:=q5.size
  have HO:=hide oo
  have HRP:=hide rps
  have c0:=oo.cell
  obtain ⟨i0,hi0,hz0,hz1,hz2⟩:=info_parts infoPair
  have pw4:p<w4.heap.size:=oo.lt
  clear oo rps q1 q2 q3 q4 q5 q6 p2 p3 p7 p2' p3' p7' p7''
  go_wp2_with (at_builtin;(refine wpList_append_lies _ rfl _ _ _ rfl B0 48 i0 _ 2 16 Tryz.underlying26 hi0 hz0 hz1 hz2 rfl (by omega) _ n pcs rfl (by exact HRP.out.alloc _) ⟨w4.heap.size,0,none⟩ 1 1 [_,_] rfl rfl (by exact cell_two_new _ _ _ _) (by simp [Value.oneCell']) (by omega) (by simp only [maxLen];omega) (by omega) (by simp;omega) (w4.heap.size+1) (by simp) ?_))
  intro gg gcap w5 hown5 hgrow hat hlt5
  have k5:Kep (fun b=>(Value.slice pa n pc).ownBlock=some b) w4 w5:=((Kep.refl _ _).alloc _).grown hgrow (fun b hb=>.inl hb)
  have o5':=HO.out.kep k5 hpp
  obtain ⟨z6,z7⟩:=o5'
  go_wp2
  go_ret
  have nop:(Value.slice (some ⟨gg,0,none⟩) (n+1) gcap).ownBlock≠some p:=fun h=>by
    have hgp:gg=p:=by simpa [Value.ownBlock] using h
    rcases hat with h' | h'
    · exact hpp (by rw [h',hgp])
    · omega
  have ok1:∀ T G:Nat,sizeOk T G rs=true→1≤T∧1≤G∧1≤rs.length:=fun T G h=>by
    simp only [sizeOk,inR,fitB,Bool.and_eq_true,decide_eq_true_eq] at h
    omega
  obtain ⟨z1,z2,z3⟩:=ok1 A B hyes
  have Lge:∀ b,L.X (newM A B rs) b→w1.heap.size≤b:=by
    rintro b (q | rfl | rfl)
    · exact HL.out.1 b q
    · exact HL.out.2.1
    · exact HL.out.2.2
  have Llt:∀ b,L.X (newM A B rs) b→b<w2.heap.size:=by
    rintro b (q | rfl | rfl)
    · exact HP2.out.lt z1 z2 b q
    · exact (HP2.out.rblt z3).1
    · exact (HP2.out.rblt z3).2
  refine ⟨rfl,L,R,.slice (some ⟨gg,0,none⟩) (n+1) gcap,_,w3,w4,k03,HP2.out.later k3,HR3.out,fun b hb=>by have:=Lge b hb;omega,fun b hb=>by have:=HRR.out b hb;omega,fun b hb hb'=>by have:=Llt b hb;have:=HRR.out b hb';omega,fun b hb=>?_,HP4.out,
    (HO.out.kep k5 hpp).set rfl _,ownsRow_setCell_other hown5 nop _,?_,fun j v hj hv=>?_,(k5.mono (fun b hb=>.inl (.inr hb))).setCell (p:=⟨p,0,none⟩) (.inl (.inl rfl)) _⟩
  · have e:gb=b:=by simpa [Value.ownBlock] using hb
    subst e
    exact ⟨by omega,by omega,fun q=>by have:=Lge gb q;omega,fun q=>by have:=HRR.out gb q;omega⟩
  · rcases hat with g1 | g1
    · exact .inl g1.symm
    · exact .inr ⟨gg,rfl,by omega⟩
  · refine (hv.kep k5 hpp).set_other ?_ rfl rfl _
    intro q
    injection q with _ q _
    exact hj q
end

section
open Go.RowKit

theorem pair_leaf (W:World) (lx rx:Nat):∃ nb,Value.pointer (some ⟨W.heap.size,0,none⟩) = .pointer (some ⟨nb,0,none⟩)∧Kep non W (W.alloc (.cells #[.pointer (some ⟨lx,0,none⟩),.pointer (some ⟨rx,0,none⟩)] 48)).drew∧(W.alloc (.cells #[.pointer (some ⟨lx,0,none⟩),.pointer (some ⟨rx,0,none⟩)] 48)).drew.cell? ⟨nb,0,none⟩=some (.pointer (some ⟨lx,0,none⟩))∧(W.alloc (.cells #[.pointer (some ⟨lx,0,none⟩),.pointer (some ⟨rx,0,none⟩)] 48)).drew.cell? ⟨nb,1,none⟩=some (.pointer (some ⟨rx,0,none⟩)):=by
  have z:=fun j=>cell_of_row _ _ j _ _ _ (heap_alloc_new W (.cells #[.pointer (some ⟨lx,0,none⟩),.pointer (some ⟨rx,0,none⟩)] 48))
  have z0:=z 0
  have z1:=z 1
  simp only [List.getElem?_toArray,List.getElem?_cons_zero,List.getElem?_cons_succ] at z0 z1
  have k:=(Kep.refl non (W.alloc (.cells #[.pointer (some ⟨lx,0,none⟩),.pointer (some ⟨rx,0,none⟩)] 48))).drew
  exact ⟨_,rfl,((Kep.refl _ _).alloc _).drew,k.cell z0 (fun q=>q),k.cell z1 (fun q=>q)⟩

set_option maxRecDepth 100000 in
set_option maxHeartbeats 2000000 in
theorem step_none (w:World) (p:Nat) (Q:World→Prop) (o:OpV) (ra:Option Addr) (rn rc:Nat) (hrv:o.rv = .slice ra rn rc) (pa:Option Addr) (pc:Nat) (c0:w.cell? ⟨p,0,none⟩=some (.slice pa 0 pc)) (hk:o.kd≠1) (HK:Hid (∀ W,Kep non w W→Q W)) :
    Calls Tryz.prog 8 #[.pointer (some ⟨p,0,none⟩),.agg o.cells] w fun e w'=>e = .returned (.bool true)∧Q w':=by
  obtain ⟨kd,M,A,B,C,D,E,rv,o0,o1,o2,o3,o4,o5,o6,o7⟩:=o
  simp only [] at hk hrv
  subst hrv
  simp only [OpV.cells]
  have hc0:∀ o,(w.alloc o).cell? ⟨p,0,none⟩=some (.slice pa 0 pc):=fun o=>cell_al c0
  have lp:p<w.heap.size:=World.block_lt_of_cell? w _ c0
  have hk1:(kd == 1)=false:=beq_eq_false_iff_ne.2 hk
  clear hk c0
  go_enter Tryz.func8,Tryz.ntmps8
  go_wp2_with fail
  go_ret
  exact ⟨rfl,HK.out _ ((Kep.refl _ _).alloc _)⟩

set_option maxRecDepth 100000 in
set_option maxHeartbeats 2000000 in
theorem step_new (w:World) (p:Nat) (Q:World→Prop) (o:OpV) (ra:Option Addr) (rn rc:Nat) (hrv:o.rv = .slice ra rn rc) (hk:o.kd=1)
    (HB:Hid (∀ W,Kep non w W→Calls Tryz.prog 11 #[.pointer (some ⟨p,0,none⟩),.agg o.cells] W fun e w'=>e = .returned (.bool true)∧Q w')) :
    Calls Tryz.prog 8 #[.pointer (some ⟨p,0,none⟩),.agg o.cells] w fun e w'=>e = .returned (.bool true)∧Q w':=by
  obtain ⟨kd,M,A,B,C,D,E,rv,o0,o1,o2,o3,o4,o5,o6,o7⟩:=o
  simp only [] at hk hrv HB
  subst hrv
  subst hk
  simp only [OpV.cells] at HB ⊢
  go_enter Tryz.func8,Tryz.ntmps8
  go_wp2_with ((go_at_call 11;refine (HB.out _ ((Kep.refl _ _).alloc _)).mono ?_;rintro e W ⟨rfl,hP⟩))
  go_ret
  exact ⟨rfl,hP⟩
end

end Go.Proofs.YtcfoobhihhndjaaGreat
