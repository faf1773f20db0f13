
import Derived.Test.YtcfoobhihhndjaaGreatB25
namespace Go.Proofs.YtcfoobhihhndjaaGreat

section
open Go.RowKit Go.Sort

def chOd (o:Od) (p q:Int):Od:={ o with p:=p,q:=q,w:=0 }

def Changes (m:Mt) (t id p q:Int) (n:Int) (ts:List Td) (c:Int) (m':Mt):Prop :=
  (¬ okI m.T t∧n=0∧ts=[]∧c=2∧m'=m) ∨
  (okI m.T t∧NoSpot m t id∧n=0∧ts=[]∧c=9∧m'=m) ∨
  (okI m.T t∧∃ h g s i o,Spot m t id h g s i o ∧
    (((chOd o p q).fit=false∧n=0∧ts=[]∧c=5∧m'=m) ∨
     ((chOd o p q).fit=true∧(p=o.p∧q≤o.q)∧n=id∧ts=[]∧c=0∧m'=lessM m h g s i o q) ∨
     ((chOd o p q).fit=true∧¬ (p=o.p∧q≤o.q)∧placeE (backM m h g s i o) (chOd o p q)=0∧n=placeI (backM m h g s i o) (chOd o p q)∧ts=placeT (backM m h g s i o) (chOd o p q)∧c=0∧m'=placeM (backM m h g s i o) (chOd o p q)) ∨
     ((chOd o p q).fit=true∧¬ (p=o.p∧q≤o.q)∧placeE (backM m h g s i o) (chOd o p q)≠0∧n=0∧ts=[]∧c=placeE (backM m h g s i o) (chOd o p q)∧m'=againM (backM m h g s i o) h g s o)))

def ChPost (w:World) (L:PL) (m:Mt) (t id p q:Int) (e:Ending) (w':World):Prop:=∃ n v c ts m',Changes m t id p q n ts c m'∧e = .returned (.tuple #[.int .i64 n,v,.int .i64 c])∧TdPost w L m m' v ts w'

theorem PPost.td {w w':World} {L:PL} {m m':Mt} (P:PPost w L m m' w'):TdPost w L m m' (.slice none 0 0) [] w':=by
  obtain ⟨L',e,hs,R⟩:=P.rep
  exact ⟨P.kp,⟨L',e,hs,R,fun b hb=>by simp [Value.ownBlock] at hb⟩,rfl,.inl ⟨rfl,rfl⟩⟩

theorem TdPost.after {w w1 w2:World} {L:PL} {m m':Mt} {v:Value} {ts:List Td} (k:Kep non w w1) (P:TdPost w1 L m m' v ts w2):TdPost w L m m' v ts w2 :=
  P.behind k.none ⟨rfl,rfl,rfl⟩ (fun _ hb=>.inl hb)

theorem back_nu (m:Mt) (h g s i:Nat) (o:Od):(backM m h g s i o).nu=m.nu∧(backM m h g s i o).T=m.T∧(backM m h g s i o).G=m.G∧(backM m h g s i o).H=m.H:=by
  unfold backM releaseM;split <;> exact ⟨rfl,rfl,rfl,rfl⟩

theorem HOk.less {m:Mt} {N:Int} (ok:m.Ok N) {h g s i:Nat} {o:Od} (q:at3 m h g s) (oo:o.Ok m h g s) {n:Int} (b1:1≤n) (b2:n≤10000):HOk ((releaseM m o.t.toNat h g s o).setBk h g s ((m.bk h g s).set i { o with q:=n })) h g s { o with q:=n }:=by
  have O:=HOk.of ok q oo
  have hpq:=mul_le' (a:=o.p) (b:=o.q) (A:=100000) (B:=10000) (by have:=oo.p;omega) oo.p.2 (by have:=oo.q;omega) oo.q.2
  have oq:=oo.q
  have hm:=ok.mo o.t.toNat (by have:=oo.t;omega)
  have hp:=ok.pc o.t.toNat h g (by have:=oo.t;omega) q.1 q.2.1
  have bN:=ok.bN
  unfold releaseM
  split
  · refine ⟨O.T,O.h4,O.g4,O.s2,O.eh,O.eg,O.es,O.p,⟨by show 0≤n;omega,b2⟩,?_,O.pc⟩
    show 0≤(if o.t.toNat=o.t.toNat then m.mo o.t.toNat+o.p * o.q else _)∧(if o.t.toNat=o.t.toNat then m.mo o.t.toNat+o.p * o.q else _)≤_
    rw [if_pos rfl]
    omega
  · refine ⟨O.T,O.h4,O.g4,O.s2,O.eh,O.eg,O.es,O.p,⟨by show 0≤n;omega,b2⟩,O.mo,?_⟩
    show 0≤(if o.t.toNat=o.t.toNat∧h=h∧g=g then m.pc o.t.toNat h g+o.q else _)∧(if o.t.toNat=o.t.toNat∧h=h∧g=g then m.pc o.t.toNat h g+o.q else _)≤_
    rw [if_pos ⟨rfl,rfl,rfl⟩]
    omega

set_option maxRecDepth 100000 in
set_option maxHeartbeats 4000000 in
theorem change_any (w:World) (L:PL) (m:Mt) (N t id p q:Int) (R:PRep w L m) (I:m.Inv N) (hn:m.nu+1≤N) :
    Calls Tryz.prog 20 #[.pointer (some ⟨L.x,0,none⟩),.int .i64 t,.int .i64 id,.int .i64 p,.int .i64 q] w fun e w'=>ChPost w L m t id p q e w':=by
  have ok:=I.ok
  have c2:=R.cA.cell
  have bT:=ok.T8
  by_cases ht:okI m.T t
  · have i1:=hide (inB_okI ht)
    have HF:=hide (find_any w L m N t id R ok)
    go_enter Tryz.func20,Tryz.ntmps20
    go_wp2_with (first | (go_at_call 63;refine (hasTrader_b _ _ _ _ _ _ bT c2).mono ?_;rw [i1.out];rintro e w ⟨rfl,rfl⟩))
    refine HF.out.mono ?_
    rintro e W ⟨hB,(⟨rfl,hno⟩ | ⟨h,g,s,i,x,o,q3,hi,ho,et,eid,rfl⟩)⟩
    · have HP:=hide (show ChPost w L m t id p q (.returned (.tuple #[.int .i64 0,.slice none 0 0,.int .i64 9])) W from ⟨0,_,9,[],m,.inr (.inl ⟨ht,hno,rfl,rfl,rfl,rfl⟩),rfl,(PPost.same R (Kep.of_below hB)).td⟩)
      go_wp2
      exact bodyPost_ret (v:=.tuple #[.int .i64 0,.slice none 0 0,.int .i64 9]) (by simp [results,Tryz.results20,go_sem]) rfl HP.out
    · have S:Spot m t id h g s i o:=⟨q3,ho,et,eid⟩
      have R1:=R.bel hB
      have hod:OdAt W x o:=fun j v hv=>R1.oc h g s i x o q3 hi ho j v hv
      have o0:=(hod 0 _ rfl).cell
      have o1:=(hod 1 _ rfl).cell
      have o2:=(hod 2 _ rfl).cell
      have o3:=(hod 3 _ rfl).cell
      have o4:=(hod 4 _ rfl).cell
      have o5:=(hod 5 _ rfl).cell
      have o6:=(hod 6 _ rfl).cell
      have o7:=(hod 7 _ rfl).cell
      have oo:=ok.od h g s o q3.1 q3.2.1 q3.2.2 (List.mem_of_getElem? ho)
      have HN:=hide (fun W'=>fit_any W' (chOd o p q))
      simp only [Od.agg,chOd] at HN
      have HK:=hide (Kep.of_below (S:=non) hB)
      have HE:=hide (show ∀ w1 n v c ts m',Kep non W w1→Changes m t id p q n ts c m'→∀ w2,TdPost w1 L m m' v ts w2→ChPost w L m t id p q (.returned (.tuple #[.int .i64 n,v,.int .i64 c])) w2 from fun w1 n v c ts m' k C w2 P=>⟨n,v,c,ts,m',C,rfl,P.after (HK.out.trans k)⟩)
      have H5:=hide (show (chOd o p q).fit=false→Changes m t id p q 0 [] 5 m from fun hf=>.inr (.inr ⟨ht,h,g,s,i,o,S,.inl ⟨hf,rfl,rfl,rfl,rfl⟩⟩))
      have HR1:=hide R1
      have Hod:=hide hod
      clear et eid R1 hod R hB HF
      go_wp2_with fail
      refine (HN.out _).mono ?_
      rintro e w1 ⟨rfl,hB1⟩
      have hbx:=(hB1.block W.heap.size (by simp)).trans (heap_alloc_new W _)
      have K1:Kep non W w1:=((Kep.refl non W).alloc _).trans (Kep.of_below hB1)
      have HK1:=hide K1
      replace o5:=K1.cell o5 (fun f=>f)
      replace o6:=K1.cell o6 (fun f=>f)
      have z0:=cell_of_row _ _ 0 _ _ _ hbx
      have z1:=cell_of_row _ _ 1 _ _ _ hbx
      have z2:=cell_of_row _ _ 2 _ _ _ hbx
      have z3:=cell_of_row _ _ 3 _ _ _ hbx
      have z4:=cell_of_row _ _ 4 _ _ _ hbx
      have z5:=cell_of_row _ _ 5 _ _ _ hbx
      have z6:=cell_of_row _ _ 6 _ _ _ hbx
      have z7:=cell_of_row _ _ 7 _ _ _ hbx
      clear hB1 K1 hbx HN o0 o1 o2 o3 o4 o7
      have HFt:=hide (rfl:(chOd o p q).fit=({ o with p:=p,q:=q,w:=0 }:Od).fit)
      cases hf:(chOd o p q).fit with
      | false =>
        have hf':({ o with p:=p,q:=q,w:=0 }:Od).fit=false:=hf
        have HP:=hide (HE.out w1 0 (.slice none 0 0) 5 [] m HK1.out (H5.out hf) w1 (PPost.same (HR1.out.later HK1.out) (Kep.refl _ _)).td)
        rw [hf']
        clear HE H5
        go_wp2
        exact bodyPost_ret (v:=.tuple #[.int .i64 0,.slice none 0 0,.int .i64 5]) (by simp [results,Tryz.results20,go_sem]) rfl HP.out
      | true =>
        have hf':({ o with p:=p,q:=q,w:=0 }:Od).fit=true:=hf
        rw [hf']
        obtain ⟨_,_,bp,bq⟩:=fit_bd hf
        replace bp:1≤p∧p≤100000:=bp
        replace bq:1≤q∧q≤10000:=bq
        by_cases hA:p=o.p∧q≤o.q
        · have HL:=hide (lessen_any w1 L m (HR1.out.later HK1.out) S hi (HOk.of ok q3 oo) q (HOk.less ok q3 oo bq.1 bq.2))
          have HP:=hide (fun w2 (P:PPost w1 L m (lessM m h g s i o q) w2)=>HE.out w1 id (.slice none 0 0) 0 [] _ HK1.out (.inr (.inr ⟨ht,h,g,s,i,o,S,.inr (.inl ⟨hf,hA,rfl,rfl,rfl,rfl⟩)⟩)) w2 P.td)
          obtain ⟨rfl,hq⟩:=hA
          clear HE H5 I ok oo S
          go_wp2_with fail
          refine HL.out.mono ?_
          rintro e w2 ⟨rfl,P⟩
          have HP2:=hide (HP.out _ P)
          clear P HP HL
          go_wp2
          exact bodyPost_ret (v:=.tuple #[.int .i64 id,.slice none 0 0,.int .i64 0]) (by simp [results,Tryz.results20,go_sem]) rfl HP2.out
        · have bn:=back_nu m h g s i o
          have hB:p≠o.p∨(p=o.p∧o.q<q):=by
            by_cases ep:p=o.p
            · exact .inr ⟨ep,by have:=fun f=>hA ⟨ep,f⟩;omega⟩
            · exact .inl ep
          by_cases hE:placeE (backM m h g s i o) (chOd o p q)=0
          · have HL:=hide (replace_yes w1 L m N (HR1.out.later HK1.out) ok S hi (chOd o p q) (I.back q3 ho) (by rw [bn.1];exact hn) hE)
            have HP:=hide (fun w2 v (P:TdPost w1 L m (placeM (backM m h g s i o) (chOd o p q)) v (placeT (backM m h g s i o) (chOd o p q)) w2)=>HE.out w1 (placeI (backM m h g s i o) (chOd o p q)) v 0 _ _ HK1.out (.inr (.inr ⟨ht,h,g,s,i,o,S,.inr (.inr (.inl ⟨hf,hA,hE,rfl,rfl,rfl,rfl⟩))⟩)) w2 P)
            clear HE H5 I ok oo S bn
            generalize placeM (backM m h g s i o) (chOd o p q)=m2 at *
            generalize placeT (backM m h g s i o) (chOd o p q)=ts at *
            generalize placeI (backM m h g s i o) (chOd o p q)=ni at *
            clear hE hA
            rcases hB with hne | ⟨rfl,hq⟩
            all_goals
              go_wp2_with fail
              refine HL.out.mono ?_
              rintro e w2 ⟨v,rfl,P⟩
              have HP2:=hide (HP.out _ _ P)
              clear P HP HL
              go_wp2
              exact bodyPost_ret (v:=.tuple #[.int .i64 ni,v,.int .i64 0]) (by simp [results,Tryz.results20,go_sem]) rfl HP2.out
          · have O:HOk (backM m h g s i o) h g s o:=HOk.of (I.back q3 ho).ok ⟨by rw [bn.2.2.2];exact q3.1,by rw [bn.2.2.1];exact q3.2.1,q3.2.2⟩ ⟨by rw [bn.1];exact oo.id,by rw [bn.2.1];exact oo.t,oo.h,oo.g,oo.s,oo.p,oo.q,oo.w⟩
            have HL:=hide (replace_no w1 L m N (HR1.out.later HK1.out) ok S hi (chOd o p q) (I.back q3 ho).ok O (by rw [hold_back];exact ok.less q3) hE)
            have HP:=hide (fun w2 (P:PPost w1 L m (againM (backM m h g s i o) h g s o) w2)=>HE.out w1 0 (.slice none 0 0) (placeE (backM m h g s i o) (chOd o p q)) [] _ HK1.out (.inr (.inr ⟨ht,h,g,s,i,o,S,.inr (.inr (.inr ⟨hf,hA,hE,rfl,rfl,rfl,rfl⟩))⟩)) w2 P.td)
            clear HE H5 I ok oo S bn O hE hA
            generalize placeE (backM m h g s i o) (chOd o p q)=en at *
            generalize againM (backM m h g s i o) h g s o=m2 at *
            rcases hB with hne | ⟨rfl,hq⟩
            all_goals
              go_wp2_with fail
              refine HL.out.mono ?_
              rintro e w2 ⟨rfl,P⟩
              have HP2:=hide (HP.out _ P)
              clear P HP HL
              go_wp2
              exact bodyPost_ret (v:=.tuple #[.int .i64 0,.slice none 0 0,.int .i64 en]) (by simp [results,Tryz.results20,go_sem]) rfl HP2.out
  · have i1:=hide (inB_not ht)
    have HP:=hide (show ChPost w L m t id p q (.returned (.tuple #[.int .i64 0,.slice none 0 0,.int .i64 2])) w from ⟨0,_,2,[],m,.inl ⟨ht,rfl,rfl,rfl,rfl⟩,rfl,(PPost.same R (Kep.refl _ _)).td⟩)
    go_enter Tryz.func20,Tryz.ntmps20
    go_wp2_with (first | (go_at_call 63;refine (hasTrader_b _ _ _ _ _ _ bT c2).mono ?_;rw [i1.out];rintro e w' ⟨rfl,rfl⟩))
    exact bodyPost_ret (v:=.tuple #[.int .i64 0,.slice none 0 0,.int .i64 2]) (by simp [results,Tryz.results20,go_sem]) rfl HP.out
end

section
theorem release_sum {m:Mt} {h g s:Nat} {o:Od} (q:at3 m h g s) (oo:o.Ok m h g s):(releaseM m o.t.toNat h g s o).money=m.money+heldS m.T [o]∧∀ g',(releaseM m o.t.toNat h g s o).stock g'=m.stock g'+if s=1∧g'=g then keptS m.T [o] else 0:=by
  have ot:=oo.t
  have hz:o.t.toNat<m.T:=by omega
  have h2:=heldS_one oo.t
  have k2:=keptS_one oo.t
  have s2:=q.2.2
  unfold releaseM
  by_cases e:s=0
  · subst e
    rw [oo.s] at h2
    simp only [Int.natCast_zero,if_true] at h2
    rw [if_pos rfl]
    refine ⟨?_,fun g'=>?_⟩
    · rw [money_setMo _ _ hz];omega
    · rw [stock_setMo];simp
  · obtain rfl:s=1:=by omega
    rw [oo.s] at h2
    simp only [Int.natCast_one,Int.one_ne_zero,if_false] at h2
    rw [if_neg (by decide)]
    refine ⟨?_,fun g'=>?_⟩
    · rw [money_setPc];omega
    · rw [stock_setPc _ _ _ _ hz q.1]
      by_cases eg:g'=g
      · rw [if_pos eg,if_pos ⟨rfl,eg⟩];omega
      · rw [if_neg eg,if_neg (fun f=>eg f.2)]

theorem hold_sum {m:Mt} {h g s:Nat} {o:Od} (q:at3 m h g s) (oo:o.Ok m h g s):(holdH m o.t.toNat h g s o).money=m.money - heldS m.T [o]∧∀ g',(holdH m o.t.toNat h g s o).stock g'=m.stock g' - if s=1∧g'=g then keptS m.T [o] else 0:=by
  have ot:=oo.t
  have hz:o.t.toNat<m.T:=by omega
  have h2:=heldS_one oo.t
  have k2:=keptS_one oo.t
  have s2:=q.2.2
  unfold holdH
  by_cases e:s=0
  · subst e
    rw [oo.s] at h2
    simp only [Int.natCast_zero,if_true] at h2
    rw [if_pos rfl]
    refine ⟨?_,fun g'=>?_⟩
    · rw [money_setMo _ _ hz];omega
    · rw [stock_setMo];simp
  · obtain rfl:s=1:=by omega
    rw [oo.s] at h2
    simp only [Int.natCast_one,Int.one_ne_zero,if_false] at h2
    rw [if_neg (by decide)]
    refine ⟨?_,fun g'=>?_⟩
    · rw [money_setPc];omega
    · rw [stock_setPc _ _ _ _ hz q.1]
      by_cases eg:g'=g
      · rw [if_pos eg,if_pos ⟨rfl,eg⟩];omega
      · rw [if_neg eg,if_neg (fun f=>eg f.2)];omega

def SameSums (m m':Mt):Prop:=m'.money=m.money∧∀ g,m'.stock g=m.stock g

theorem back_sums {m:Mt} {h g s i:Nat} {o:Od} (q:at3 m h g s) (oo:o.Ok m h g s) (hb:(m.bk h g s)[i]? = some o):SameSums m (backM m h g s i o):=by
  unfold backM
  have q':at3 (m.setBk h g s ((m.bk h g s).eraseIdx i)) h g s:=q
  obtain ⟨r1,r2⟩:=release_sum (m:=m.setBk h g s ((m.bk h g s).eraseIdx i)) q' (oo.of (Int.le_refl _) rfl)
  have h1:=(adds_heldS m.T).erase hb
  have k1:=(adds_keptS m.T).erase hb
  refine ⟨?_,fun g'=>?_⟩
  · rw [r1,money_setBk m q]
    show _+_+heldS m.T [o]=_
    omega
  · rw [r2,stock_setBk m q]
    show _+_+(if s=1∧g'=g then keptS m.T [o] else 0)=_
    by_cases e:s=1∧g'=g
    · rw [if_pos e,if_pos e]
      rw [e.1] at k1 ⊢
      omega
    · rw [if_neg e,if_neg e];omega

theorem Adds.set {α:Type} {φ:List α→Int} (A:Adds φ):∀ {l:List α} {i:Nat} {x:α} (y:α),l[i]? = some x→φ (l.set i y)=φ l - φ [x]+φ [y]
  | [],i,x,y,h=>by simp at h
  | z :: l,0,x,y,h=>by
    obtain rfl:z=x:=by simpa using h
    rw [List.set_cons_zero,A.cons y l,A.cons z l]
    omega
  | z :: l,i+1,x,y,h=>by
    have ih:=A.set (l:=l) (i:=i) (x:=x) y (by simpa using h)
    rw [List.set_cons_succ,A.cons z (l.set i y),A.cons z l,ih]
    omega

theorem less_sums {m:Mt} {h g s i:Nat} {o:Od} (q:at3 m h g s) (oo:o.Ok m h g s) (hb:(m.bk h g s)[i]? = some o) {n:Int} (b1:1≤n) (b2:n≤10000):SameSums m (lessM m h g s i o n):=by
  unfold lessM
  obtain ⟨r1,r2⟩:=release_sum q oo
  obtain ⟨eb,eT,eG,eH⟩:=releaseM_bk m o.t.toNat h g s o
  have q1:at3 (releaseM m o.t.toNat h g s o) h g s:=⟨by rw [eH];exact q.1,by rw [eG];exact q.2.1,q.2.2⟩
  have enu:(releaseM m o.t.toNat h g s o).nu=m.nu:=by unfold releaseM;split <;> rfl
  have oo1:({ o with q:=n }:Od).Ok ((releaseM m o.t.toNat h g s o).setBk h g s ((m.bk h g s).set i { o with q:=n })) h g s :=
    ⟨⟨oo.id.1,by show o.id≤(releaseM m o.t.toNat h g s o).nu;rw [enu];exact oo.id.2⟩,by show 0≤o.t∧o.t<((releaseM m o.t.toNat h g s o).T:Int);rw [eT];exact oo.t,oo.h,oo.g,oo.s,oo.p,⟨b1,b2⟩,oo.w⟩
  obtain ⟨t1,t2⟩:=hold_sum (m:=(releaseM m o.t.toNat h g s o).setBk h g s ((m.bk h g s).set i { o with q:=n })) (o:={ o with q:=n }) q1 oo1
  have h1:=(adds_heldS m.T).set ({ o with q:=n }:Od) hb
  have k1:=(adds_keptS m.T).set ({ o with q:=n }:Od) hb
  have eT':((releaseM m o.t.toNat h g s o).setBk h g s ((m.bk h g s).set i { o with q:=n })).T=m.T:=eT
  rw [eT'] at t1 t2
  refine ⟨?_,fun g'=>?_⟩
  · rw [t1,money_setBk _ q1,eT,eb,r1]
    omega
  · rw [t2,stock_setBk _ q1,eT,eb,r2]
    by_cases e:s=1∧g'=g
    · rw [if_pos e,if_pos e,if_pos e]
      rw [e.1] at k1 ⊢
      omega
    · rw [if_neg e,if_neg e,if_neg e];omega

theorem again_sums {m:Mt} {h g s i:Nat} {o:Od} (q:at3 m h g s) (hb:(m.bk h g s)[i]? = some o):SameSums m (againM (backM m h g s i o) h g s o):=by
  unfold againM
  rw [hold_back]
  have eb:(backM m h g s i o).bk h g s=(m.bk h g s).eraseIdx i:=by
    unfold backM
    rw [(releaseM_bk _ _ _ _ _ _).1]
    simp [Mt.setBk]
  rw [eb]
  have h1:=(adds_heldS m.T).erase hb
  have k1:=(adds_keptS m.T).erase hb
  obtain ⟨k,hk⟩ : ∃ k,k=slot (ahAt ((m.bk h g s).eraseIdx i) s o) ((m.bk h g s).eraseIdx i).length:=⟨_,rfl⟩
  rw [← hk]
  have h2:=(adds_heldS m.T).put ((m.bk h g s).eraseIdx i) k o
  have k2:=(adds_keptS m.T).put ((m.bk h g s).eraseIdx i) k o
  have e2:∀ l l':List Od,(m.setBk h g s l).setBk h g s l'=m.setBk h g s l':=fun l l'=>by
    show ({ m with bk:=_ }:Mt)={ m with bk:=_ }
    congr 1
    funext a b c
    by_cases e:a=h∧b=g∧c=s <;> simp [Mt.setBk,e]
  rw [e2]
  refine ⟨?_,fun g'=>?_⟩
  · rw [money_setBk m q]
    omega
  · rw [stock_setBk m q]
    by_cases e:s=1∧g'=g
    · rw [if_pos e]
      rw [e.1] at k1 k2 ⊢
      omega
    · rw [if_neg e];omega
end

section
def AirSums (m:Mt) (o:Od) (m':Mt) (o':Od):Prop:=m'.money+airM o'=m.money+airM o∧∀ g,m'.stock g+airP o' g=m.stock g+airP o g

theorem AirSums.refl (m:Mt) (o:Od):AirSums m o m o:=⟨rfl,fun _=>rfl⟩
theorem AirSums.trans {m m1 m2:Mt} {o o1 o2:Od} (a:AirSums m o m1 o1) (b:AirSums m1 o1 m2 o2):AirSums m o m2 o2:=⟨b.1.trans a.1,fun g=>(b.2 g).trans (a.2 g)⟩

section
variable {h g s:Nat} {N:Int}

theorem note_sums {m:Mt} {o z:Od} {r:List Od} (M:Mid h g s N m o) (hb:m.bk h g s=z :: r) (n:Int) (p q:Int):AirSums m o (noteM (oneM m h g s o z n) h g p q) { o with q:=o.q - n } :=
  ⟨one_money M hb n,fun g'=>one_stock M hb n g'⟩

theorem match_sums:∀ (l:List Od) (m:Mt) (o:Od),Mid h g s N m o→m.bk h g s=l→AirSums m o (matchM h g s l m o).1 (matchM h g s l m o).2.1
  | [],m,o,_,_=>AirSums.refl m o
  | z :: r,m,o,M,hb=>by
    unfold matchM
    have zo:=M.I.od h g s z M.q.1 M.q.2.1 M.q.2.2 (by rw [hb];exact List.mem_cons_self)
    split
    · exact AirSums.refl m o
    split
    · exact AirSums.refl m o
    rename_i hq hf
    have hf':pfits o z=true:=by simpa using hf
    split
    · rename_i ht
      have b:=back_sums (i:=0) M.q zo (by rw [hb];rfl)
      have e:backM m h g s 0 z=releaseM (m.setBk h g s r) z.t.toNat h g s z:=by unfold backM;rw [hb];rfl
      rw [e] at b
      refine AirSums.trans (o1:=o) ⟨by rw [b.1],fun g'=>by rw [b.2 g']⟩ (match_sums r _ o (M.tb hb) ?_)
      rw [(releaseM_bk _ _ _ _ _ _).1]
      simp [Mt.setBk]
    rename_i ht
    split
    · rename_i he
      have M1:=M.tr (by omega) hb hf' ht he
      have n1:=note_sums M hb (min o.q z.q) z.p (min o.q z.q)
      have hdm:=show (oneM m h g s o z (min o.q z.q)).T=m.T∧(oneM m h g s o z (min o.q z.q)).G=m.G∧(oneM m h g s o z (min o.q z.q)).H=m.H by unfold oneM;split <;> exact ⟨rfl,rfl,rfl⟩
      have q1:at3 (noteM (oneM m h g s o z (min o.q z.q)) h g z.p (min o.q z.q)) h g s:=by
        show h<(oneM m h g s o z (min o.q z.q)).H∧g<(oneM m h g s o z (min o.q z.q)).G∧s<2
        rw [hdm.2.1,hdm.2.2]
        exact M.q
      have xb:(noteM (oneM m h g s o z (min o.q z.q)) h g z.p (min o.q z.q)).bk h g s={ z with q:=z.q - min o.q z.q } :: r:=by
        show (oneM m h g s o z (min o.q z.q)).bk h g s=_
        rw [one_bk (m:=m) (h:=h) (g:=g) (s:=s) (o:=o) (z:=z) M.q.2.2 _,hb]
        simp [Mt.setBk]
      have xT:(noteM (oneM m h g s o z (min o.q z.q)) h g z.p (min o.q z.q)).T=m.T:=hdm.1
      have c1:=(adds_heldS m.T).cons { z with q:=z.q - min o.q z.q } r
      have c2:=(adds_keptS m.T).cons { z with q:=z.q - min o.q z.q } r
      have d1:=heldS_one (T:=m.T) (o:={ z with q:=z.q - min o.q z.q }) zo.t
      have d2:=keptS_one (T:=m.T) (o:={ z with q:=z.q - min o.q z.q }) zo.t
      have d3:({ z with q:=z.q - min o.q z.q }:Od).q=0:=he
      rw [d3] at d1 d2
      have d4:heldS m.T [{ z with q:=z.q - min o.q z.q }]=0:=by rw [d1];split <;> simp
      refine AirSums.trans (n1.trans (o1:={ o with q:=o.q - min o.q z.q }) (o2:={ o with q:=o.q - min o.q z.q }) ?_) (match_sums r _ _ M1 (by simp [Mt.setBk]))
      refine ⟨?_,fun g'=>?_⟩
      · rw [money_setBk _ q1,xT,xb]
        omega
      · rw [stock_setBk _ q1,xT]
        by_cases e:s=1∧g'=g
        · rw [if_pos e]
          obtain ⟨es,eg⟩:=e
          subst es
          rw [xb]
          omega
        · rw [if_neg e];omega
    · exact note_sums M hb _ _ _
end
end

section
theorem settle_sums {h g s:Nat} {N:Int} {m:Mt} {o:Od} (M:Mid h g (otherS s) N m o) (es:o.s=s) (s2:s<2):(settleM m o).money=m.money+airM o∧∀ g',(settleM m o).stock g'=m.stock g'+airP o g':=by
  obtain ⟨q1,q2,_⟩:=M.q
  have q:at3 m h g s:=⟨q1,q2,s2⟩
  have ot:=M.t
  have hz:o.t.toNat<m.T:=by omega
  have eh:=M.eh
  have eg:=M.eg
  have toh:o.h.toNat=h:=by omega
  have tog:o.g.toNat=g:=by omega
  have tos:o.s.toNat=s:=by omega
  unfold settleM
  split
  · unfold waitM
    rw [toh,tog,tos]
    obtain ⟨k,hk⟩ : ∃ k,k=slot (ahAt (m.bk h g s) s o) (m.bk h g s).length:=⟨_,rfl⟩
    rw [← hk]
    have he:=(adds_heldS m.T).put (m.bk h g s) k o
    have ke:=(adds_keptS m.T).put (m.bk h g s) k o
    rw [heldS_one M.t] at he
    rw [keptS_one M.t] at ke
    refine ⟨?_,fun g'=>?_⟩
    · rw [money_setBk m q,he]
      unfold airM
      omega
    · rw [stock_setBk m q]
      unfold airP
      by_cases e:s=1∧g'=g
      · obtain ⟨rfl,rfl⟩:=e
        rw [if_pos ⟨rfl,rfl⟩,if_pos ⟨es,eg⟩,ke]
        omega
      · rw [if_neg e,if_neg (fun f=>e ⟨by omega,by have:=f.2;omega⟩)]
  · rw [toh,tog,tos]
    unfold releaseM
    by_cases e:s=0
    · subst e
      have o0:o.s=0:=es
      rw [if_pos rfl]
      refine ⟨?_,fun g'=>?_⟩
      · rw [money_setMo _ _ hz]
        unfold airM
        rw [if_pos o0]
        omega
      · rw [stock_setMo]
        unfold airP
        rw [if_neg (fun f=>by have:=f.1;omega)]
        omega
    · obtain rfl:s=1:=by omega
      have o1:o.s=1:=es
      rw [if_neg (by decide)]
      refine ⟨?_,fun g'=>?_⟩
      · rw [money_setPc]
        unfold airM
        rw [if_neg (by omega)]
        omega
      · rw [stock_setPc _ _ _ _ hz q1]
        unfold airP
        by_cases e':g'=g
        · rw [if_pos e',if_pos ⟨o1,by rw [eg,e']⟩];omega
        · rw [if_neg e',if_neg (fun f=>e' (by have:=f.2;omega))]

theorem held_start {m:Mt} {o:Od} {h g s:Nat} (hz:o.t.toNat<m.T) (hh:h<m.H) (eh:o.h=h) (eg:o.g=g) (es:o.s=s) (s2:s<2):(holdM m o).money+airM o=m.money∧∀ g',(holdM m o).stock g'+airP o g'=m.stock g':=by
  have toh:o.h.toNat=h:=by omega
  have tog:o.g.toNat=g:=by omega
  unfold holdM
  rw [toh,tog]
  by_cases e:s=0
  · subst e
    have o0:o.s=0:=es
    rw [if_pos o0]
    refine ⟨?_,fun g'=>?_⟩
    · rw [money_setMo _ _ hz]
      unfold airM
      rw [if_pos o0]
      omega
    · rw [stock_setMo]
      unfold airP
      rw [if_neg (fun f=>by have:=f.1;omega)]
      omega
  · obtain rfl:s=1:=by omega
    have o1:o.s=1:=es
    rw [if_neg (by omega)]
    refine ⟨?_,fun g'=>?_⟩
    · rw [money_setPc]
      unfold airM
      rw [if_neg (by omega)]
      omega
    · rw [stock_setPc _ _ _ _ hz hh]
      unfold airP
      by_cases e':g'=g
      · rw [if_pos e',if_pos ⟨o1,by rw [eg,e']⟩];omega
      · rw [if_neg e',if_neg (fun f=>e' (by have:=f.2;omega))];omega

theorem place_sums {m:Mt} {N:Int} (I:m.Inv N) (hn:m.nu+1≤N) (o:Od):SameSums m (placeM m o):=by
  unfold placeM
  split
  · rename_i hE
    have i:=(refE1_zero (placeE_zero hE).1)
    obtain ⟨bs,bw,bp,bq⟩:=fit_bd i.2.2.2
    obtain ⟨h,eh⟩ : ∃ h:Nat,o.h=h:=⟨o.h.toNat,by have:=i.2.1.1;omega⟩
    obtain ⟨g,eg⟩ : ∃ g:Nat,o.g=g:=⟨o.g.toNat,by have:=i.2.2.1.1;omega⟩
    obtain ⟨s,es⟩ : ∃ s:Nat,o.s=s:=⟨o.s.toNat,by omega⟩
    have s2:s<2:=by omega
    have M0:=I.start hn hE eh eg es
    obtain ⟨M1,l1,n1,x,ex⟩:=I.mid hn hE eh eg es
    have toh:o.h.toNat=h:=by omega
    have tog:o.g.toNat=g:=by omega
    have tos:o.s.toNat=s:=by omega
    have hb:(holdM { m with nu:=m.nu+1 } { o with id:=m.nu+1 }).bk h g (otherS s)=m.bk h g (otherS s):=by rw [bk_hold]
    have A:=match_sums _ _ _ M0 hb
    have A':AirSums (holdM { m with nu:=m.nu+1 } { o with id:=m.nu+1 }) { o with id:=m.nu+1 } (placed m o).1 (placed m o).2.1:=by
      unfold placed
      rw [toh,tog,tos]
      exact A
    have hh:h<m.H:=by have:=i.2.1.2;omega
    have B:=held_start (m:={ m with nu:=m.nu+1 }) (o:={ o with id:=m.nu+1 }) (h:=h) (g:=g) (s:=s) (show o.t.toNat<m.T by have:=i.1;omega) hh eh eg es s2
    have C:=settle_sums M1 (by rw [ex];exact es) s2
    refine ⟨?_,fun g'=>?_⟩
    · rw [C.1,A'.1,B.1];rfl
    · rw [C.2,A'.2,B.2];rfl
  · exact ⟨rfl,fun _=>rfl⟩
end

section
theorem all_eq {m m':Mt} (hG:m'.G=m.G) (hH:m'.H=m.H) (hb:m'.bk=m.bk):m'.all=m.all:=by unfold Mt.all;rw [hG,hH,hb]

theorem Mt.Inv.less {m:Mt} {N:Int} (I:m.Inv N) {h g s:Nat} (q:at3 m h g s) {i:Nat} {o:Od} (hb:(m.bk h g s)[i]? = some o) {n:Int} (b1:1≤n) (b2:n≤o.q):(lessM m h g s i o n).Inv N:=by
  have oo:=I.od h g s o q.1 q.2.1 q.2.2 (List.mem_of_getElem? hb)
  have oq:=oo.q
  have op:=oo.p
  have ot:=oo.t
  have hz:o.t.toNat<m.T:=by omega
  obtain ⟨s1,s2⟩:=less_sums q oo hb b1 (by omega)
  have hmul:o.p * n≤o.p * o.q:=Int.mul_le_mul_of_nonneg_left b2 (by omega)
  have ebk:(lessM m h g s i o n).bk=(m.setBk h g s ((m.bk h g s).set i { o with q:=n })).bk:=by
    unfold lessM
    rw [(holdM_bk' _ _ _ _ _ _).1]
    show (fun a b c=>if a=h∧b=g∧c=s then _ else (releaseM m o.t.toNat h g s o).bk a b c)=_
    rw [(releaseM_bk m o.t.toNat h g s o).1]
    rfl
  have eT:(lessM m h g s i o n).T=m.T∧(lessM m h g s i o n).G=m.G∧(lessM m h g s i o n).H=m.H:=by
    unfold lessM holdH releaseM
    by_cases e:s=0
    · rw [if_pos e,if_pos e];exact ⟨rfl,rfl,rfl⟩
    · rw [if_neg e,if_neg e];exact ⟨rfl,rfl,rfl⟩
  have er:(lessM m h g s i o n).rt=m.rt∧(lessM m h g s i o n).ld=m.ld∧(lessM m h g s i o n).nu=m.nu∧(lessM m h g s i o n).ho=m.ho∧(lessM m h g s i o n).tm=m.tm∧(lessM m h g s i o n).pi=m.pi∧(lessM m h g s i o n).am=m.am:=by
    unfold lessM holdH releaseM
    by_cases e:s=0
    · rw [if_pos e,if_pos e];exact ⟨rfl,rfl,rfl,rfl,rfl,rfl,rfl⟩
    · rw [if_neg e,if_neg e];exact ⟨rfl,rfl,rfl,rfl,rfl,rfl,rfl⟩
  have al:(lessM m h g s i o n).all.length=m.all.length:=by
    have e:(lessM m h g s i o n).all=(m.setBk h g s ((m.bk h g s).set i { o with q:=n })).all:=all_eq eT.2.1 eT.2.2 ebk
    have:=all_setBk m q ((m.bk h g s).set i { o with q:=n })
    rw [List.length_set] at this
    rw [e]
    omega
  have emo:∀ t,t<m.T→0≤(lessM m h g s i o n).mo t:=fun t ht=>by
    have k1:=I.mo t ht
    have k2:=I.mo _ hz
    unfold lessM holdH releaseM
    by_cases e:s=0
    · rw [if_pos e,if_pos e]
      show 0≤if t=o.t.toNat then (if o.t.toNat=o.t.toNat then m.mo o.t.toNat+o.p * o.q else m.mo o.t.toNat) - o.p * n else if t=o.t.toNat then m.mo o.t.toNat+o.p * o.q else m.mo t
      rw [if_pos rfl]
      split <;> omega
    · rw [if_neg e,if_neg e]
      exact k1
  have epc:∀ a b c,a<m.T→b<m.H→c<m.G→0≤(lessM m h g s i o n).pc a b c:=fun a b c ha hb' hc=>by
    have k1:=I.pc a b c ha hb' hc
    have k2:=I.pc _ _ _ hz q.1 q.2.1
    unfold lessM holdH releaseM
    by_cases e:s=0
    · rw [if_pos e,if_pos e]
      exact k1
    · rw [if_neg e,if_neg e]
      show 0≤if a=o.t.toNat∧b=h∧c=g then (if o.t.toNat=o.t.toNat∧h=h∧g=g then m.pc o.t.toNat h g+o.q else m.pc o.t.toNat h g) - n else if a=o.t.toNat∧b=h∧c=g then m.pc o.t.toNat h g+o.q else m.pc a b c
      rw [if_pos (show o.t.toNat=o.t.toNat∧h=h∧g=g from ⟨rfl,rfl,rfl⟩)]
      split <;> omega
  obtain ⟨e1,e2,e3,e4,e5,e6,e7⟩:=er
  obtain ⟨t1,t2,t3⟩:=eT
  refine ⟨I.bN,by rw [t1];exact I.T1,by rw [t1];exact I.T8,by rw [t2];exact I.G1,by rw [t2];exact I.G4,by rw [t3];exact I.H1,by rw [t3];exact I.H4,by rw [t3,e1];exact I.rt,by rw [t1];exact emo,by rw [t1,t2,t3];exact epc,by rw [e2];exact I.l20,by rw [e2,t1,t2,t3];exact I.ld,by rw [al];exact I.a60,fun a b c x ha hb' hc hx=>?_,by rw [e3];exact I.nu,by rw [e4];exact I.ho,by rw [e5];exact I.tm,by rw [s1];exact I.mon,fun g' hg'=>by rw [s2];exact I.stk g' (t2 ▸ hg'),fun a b ha hb'=>by rw [e6,al,e3];exact I.pi a b (t3 ▸ ha) (t2 ▸ hb'),fun a b ha hb'=>by rw [e7,al,e3];exact I.am a b (t3 ▸ ha) (t2 ▸ hb')⟩
  rw [ebk] at hx
  rw [t3] at ha
  rw [t2] at hb'
  by_cases e:a=h∧b=g∧c=s
  · obtain ⟨rfl,rfl,rfl⟩:=e
    have hx':x∈(m.bk a b c).set i { o with q:=n }:=by simpa [Mt.setBk] using hx
    rcases List.mem_or_eq_of_mem_set hx' with f | rfl
    · exact (I.od a b c x ha hb' hc f).of (by rw [e3];exact Int.le_refl _) t1
    · exact ⟨by rw [e3];exact oo.id,by rw [t1];exact oo.t,oo.h,oo.g,oo.s,oo.p,⟨b1,by show n≤10000;omega⟩,oo.w⟩
  · exact (I.od a b c x ha hb' hc (by simpa [Mt.setBk,e] using hx)).of (by rw [e3];exact Int.le_refl _) t1

theorem again_eq (m:Mt) (h g s i:Nat) (o:Od):againM (backM m h g s i o) h g s o=m.setBk h g s (putAt ((m.bk h g s).eraseIdx i) (slot (ahAt ((m.bk h g s).eraseIdx i) s o) ((m.bk h g s).eraseIdx i).length) o):=by
  unfold againM
  rw [hold_back,setBk_setBk]
  have eb:(backM m h g s i o).bk h g s=(m.bk h g s).eraseIdx i:=by
    unfold backM
    rw [(releaseM_bk _ _ _ _ _ _).1]
    simp [Mt.setBk]
  rw [eb]

theorem Mt.Inv.again {m:Mt} {N:Int} (I:m.Inv N) {h g s:Nat} (q:at3 m h g s) {i:Nat} {o:Od} (hb:(m.bk h g s)[i]? = some o):(againM (backM m h g s i o) h g s o).Inv N:=by
  have oo:=I.od h g s o q.1 q.2.1 q.2.2 (List.mem_of_getElem? hb)
  obtain ⟨s1,s2⟩:=again_sums q hb
  rw [again_eq] at s1 s2 ⊢
  obtain ⟨k,hk⟩ : ∃ k,k=slot (ahAt ((m.bk h g s).eraseIdx i) s o) ((m.bk h g s).eraseIdx i).length:=⟨_,rfl⟩
  rw [← hk] at s1 s2 ⊢
  have pl:=(adds_len (α:=Od)).put ((m.bk h g s).eraseIdx i) k o
  simp only [List.length_singleton] at pl
  have l1:=(List.getElem?_eq_some_iff.1 hb).1
  have l2:=List.length_eraseIdx_of_lt l1
  have al:=all_setBk m q (putAt ((m.bk h g s).eraseIdx i) k o)
  have al':(m.setBk h g s (putAt ((m.bk h g s).eraseIdx i) k o)).all.length=m.all.length:=by omega
  refine ⟨I.bN,I.T1,I.T8,I.G1,I.G4,I.H1,I.H4,I.rt,I.mo,I.pc,I.l20,I.ld,by rw [al'];exact I.a60,fun a b c x ha hb' hc hx=>?_,I.nu,I.ho,I.tm,by rw [s1];exact I.mon,fun g' hg'=>by rw [s2];exact I.stk g' hg',fun a b ha hb'=>by rw [al'];exact I.pi a b ha hb',fun a b ha hb'=>by rw [al'];exact I.am a b ha hb'⟩
  by_cases e:a=h∧b=g∧c=s
  · obtain ⟨rfl,rfl,rfl⟩:=e
    have hx':x∈putAt ((m.bk a b c).eraseIdx i) k o:=by simpa [Mt.setBk] using hx
    rcases mem_put hx' with rfl | f
    · exact oo.of (Int.le_refl _) rfl
    · exact (I.od a b c x ha hb' hc (List.mem_of_mem_eraseIdx f)).of (Int.le_refl _) rfl
  · exact (I.od a b c x ha hb' hc (by simpa [Mt.setBk,e] using hx)).of (Int.le_refl _) rfl

theorem place_nu (m:Mt) (o:Od):(placeM m o).nu≤m.nu+1:=by
  unfold placeM
  split
  · have e:(settleM (placed m o).1 (placed m o).2.1).nu=(placed m o).1.nu:=by
      unfold settleM
      split
      · rfl
      · unfold releaseM;split <;> rfl
    have e2:(placed m o).1.nu=m.nu+1:=by unfold placed;rw [(matchM_same _ _ _).nu,(same_hold _ _).nu]
    rw [e,e2]
    exact Int.le_refl _
  · omega

theorem Changes.keeps {m m':Mt} {N t id p q n c:Int} {ts:List Td} (I:m.Inv N) (hn:m.nu+1≤N) (C:Changes m t id p q n ts c m'):m'.Inv N∧SameSums m m'∧m'.nu≤m.nu+1:=by
  rcases C with ⟨_,_,_,_,rfl⟩ | ⟨_,_,_,_,_,rfl⟩ | ⟨_,h,g,s,i,o,S,(⟨_,_,_,_,rfl⟩ | ⟨hf,hA,_,_,_,rfl⟩ | ⟨hf,hA,hE,_,_,_,rfl⟩ | ⟨hf,hA,hE,_,_,_,rfl⟩)⟩
  · exact ⟨I,⟨rfl,fun _=>rfl⟩,by omega⟩
  · exact ⟨I,⟨rfl,fun _=>rfl⟩,by omega⟩
  · exact ⟨I,⟨rfl,fun _=>rfl⟩,by omega⟩
  · have oo:=I.od h g s o S.q.1 S.q.2.1 S.q.2.2 (List.mem_of_getElem? S.ho)
    obtain ⟨_,_,_,bq⟩:=fit_bd hf
    have bq':1≤q∧q≤10000:=bq
    refine ⟨I.less S.q S.ho bq'.1 hA.2,less_sums S.q oo S.ho bq'.1 bq'.2,?_⟩
    have:(lessM m h g s i o q).nu=m.nu:=by
      unfold lessM holdH releaseM
      by_cases e:s=0
      · rw [if_pos e,if_pos e];rfl
      · rw [if_neg e,if_neg e];rfl
    omega
  · have oo:=I.od h g s o S.q.1 S.q.2.1 S.q.2.2 (List.mem_of_getElem? S.ho)
    have bn:=back_nu m h g s i o
    have B:=back_sums S.q oo S.ho
    have I1:=I.back S.q S.ho
    have P:=place_sums I1 (by rw [bn.1];exact hn) (chOd o p q)
    refine ⟨I1.place (by rw [bn.1];exact hn) _,⟨P.1.trans B.1,fun g'=>(P.2 g').trans (B.2 g')⟩,?_⟩
    have:(placeM (backM m h g s i o) (chOd o p q)).nu≤(backM m h g s i o).nu+1:=place_nu _ _
    omega
  · refine ⟨I.again S.q S.ho,again_sums S.q S.ho,?_⟩
    rw [again_eq]
    show m.nu≤_
    omega
end

end Go.Proofs.YtcfoobhihhndjaaGreat
