
import Derived.Test.YtcfoobhihhndjaaGreatB04
import Derived.Test.YtcfoobhihhndjaaGreatB09
import Derived.Test.YtcfoobhihhndjaaGreatB12
import Derived.Test.YtcfoobhihhndjaaGreatB20
namespace Go.Proofs.YtcfoobhihhndjaaGreat

section
open Go.RowKit Go.Sort

theorem upG_leneq {α β:Type} {f:Nat→Nat→List α} {k:Nat→Nat→List β}:∀ G,(∀ g s,g<G→s<2→(f g s).length=(k g s).length)→(upG f G).length=(upG k G).length
  | 0,_=>rfl
  | G+1,h=>by simp only [upG,two,List.length_append,upG_leneq G fun g s a b=>h g s (by omega) b,h G 0 (by omega) (by omega),h G 1 (by omega) (by omega)]
theorem upH_leneq {α β:Type} {G:Nat} {f:Nat→Nat→Nat→List α} {k:Nat→Nat→Nat→List β}:∀ H,(∀ h g s,h<H→g<G→s<2→(f h g s).length=(k h g s).length)→(upH G f H).length=(upH G k H).length
  | 0,_=>rfl
  | H+1,h=>by simp only [upH,List.length_append,upH_leneq H fun x g s a b c=>h x g s (by omega) b c,upG_leneq G fun g s a b=>h H g s (by omega) a b]

theorem upG_at {α β:Type} {f:Nat→Nat→List α} {k:Nat→Nat→List β}:∀ {G:Nat},(∀ g s,g<G→s<2→(f g s).length=(k g s).length)→∀ {n:Nat} {x:α} {y:β},(upG f G)[n]? = some x→(upG k G)[n]? = some y→∃ g s i:Nat,g<G∧s<2∧(f g s)[i]? = some x∧(k g s)[i]? = some y
  | 0,_,n,x,y,h,_=>by simp [upG] at h
  | G+1,hl,n,x,y,h,h'=>by
    have e:(upG f G).length=(upG k G).length:=upG_leneq G fun g s a b=>hl g s (by omega) b
    simp only [upG,two] at h h'
    by_cases c:n<(upG f G).length
    · rw [List.getElem?_append_left c] at h
      rw [List.getElem?_append_left (by omega)] at h'
      obtain ⟨g,s,i,a,b,c,d⟩:=upG_at (fun g s a b=>hl g s (by omega) b) h h'
      exact ⟨g,s,i,by omega,b,c,d⟩
    · rw [List.getElem?_append_right (by omega)] at h
      rw [List.getElem?_append_right (by omega),← e] at h'
      have e0:=hl G 0 (by omega) (by omega)
      by_cases c2:n - (upG f G).length<(f G 0).length
      · rw [List.getElem?_append_left c2] at h
        rw [List.getElem?_append_left (by omega)] at h'
        exact ⟨G,0,_,by omega,by omega,h,h'⟩
      · rw [List.getElem?_append_right (by omega)] at h
        rw [List.getElem?_append_right (by omega),← e0] at h'
        exact ⟨G,1,_,by omega,by omega,h,h'⟩
theorem upH_at {α β:Type} {G:Nat} {f:Nat→Nat→Nat→List α} {k:Nat→Nat→Nat→List β}:∀ {H:Nat},(∀ h g s,h<H→g<G→s<2→(f h g s).length=(k h g s).length)→∀ {n:Nat} {x:α} {y:β},(upH G f H)[n]? = some x→(upH G k H)[n]? = some y→∃ h g s i:Nat,h<H∧g<G∧s<2∧(f h g s)[i]? = some x∧(k h g s)[i]? = some y
  | 0,_,n,x,y,h,_=>by simp [upH] at h
  | H+1,hl,n,x,y,h,h'=>by
    have e:(upH G f H).length=(upH G k H).length:=upH_leneq H fun h g s a b c=>hl h g s (by omega) b c
    simp only [upH] at h h'
    by_cases c:n<(upH G f H).length
    · rw [List.getElem?_append_left c] at h
      rw [List.getElem?_append_left (by omega)] at h'
      obtain ⟨h,g,s,i,a,b,c,d⟩:=upH_at (fun h g s a b c=>hl h g s (by omega) b c) h h'
      exact ⟨h,g,s,i,by omega,b,c,d⟩
    · rw [List.getElem?_append_right (by omega)] at h
      rw [List.getElem?_append_right (by omega),← e] at h'
      obtain ⟨g,s,i,a,b,c,d⟩:=upG_at (fun g s a b=>hl H g s (by omega) a b) h h'
      exact ⟨H,g,s,i,by omega,a,b,c,d⟩

def FindPost (w:World) (L:PL) (m:Mt) (t id:Int) (e:Ending) (w':World):Prop :=
  Below w.heap.size w w'∧((e = .returned (.pointer none)∧∀ o:Od,o∈m.all→¬ (o.t=t∧o.id=id))∨∃ (h g s i x:Nat) (o:Od),at3 m h g s∧(L.ob h g s)[i]? = some x∧(m.bk h g s)[i]? = some o∧o.t=t∧o.id=id∧e = .returned (.pointer (some ⟨x,0,none⟩)))

set_option maxRecDepth 100000 in
set_option maxHeartbeats 4000000 in
theorem find_any (w:World) (L:PL) (m:Mt) (N t id:Int) (R:PRep w L m) (ok:m.Ok N) :
    Calls Tryz.prog 64 #[.pointer (some ⟨L.x,0,none⟩),.int .i64 t,.int .i64 id] w fun e w'=>FindPost w L m t id e w':=by
  have hlen:=R.len_all
  have h60:=ok.a60
  have HW:=hide (waiting_any w L m N R ok (by omega))
  have HF:=hide (forall2_get R.odall).2
  have HA:=hide (show ∀ (n x:Nat) (o:Od),(L.all m)[n]? = some x→m.all[n]? = some o→∃ h g s i:Nat,h<m.H∧g<m.G∧s<2∧(L.ob h g s)[i]? = some x∧(m.bk h g s)[i]? = some o from fun n x o a b=>upH_at (fun h g s p q r=>(forall2_get (R.one ⟨p,q,r⟩)).1) a b)
  clear R ok
  go_enter Tryz.func64,Tryz.ntmps64
  go_wp2_with fail
  refine HW.out.mono ?_
  rintro e W ⟨v,rfl,hown,hB⟩
  obtain ⟨ra,rc,rfl⟩:=row_form hown
  have HRow:=hide hown
  clear hown HW
  go_wp2
  go_loopw [12] (fun i wr=>∃ k:Nat,k≤m.all.length∧i = .int .i64 k∧wr=W∧∀ o:Od,o∈m.all.take k→¬ (o.t=t∧o.id=id)) (fun i _=>m.all.length - (intOf i).toNat)
  case atStart=>exact ⟨0,by omega,rfl,rfl,fun o h=>by simp at h⟩
  case round =>
    obtain ⟨k,hk,rfl,rfl,hn⟩:=hrel
    by_cases hlt:k<m.all.length
    · have hb:k<(L.all m).length:=by omega
      have hlt':(k:Int)<((L.all m).length:Int):=by omega
      obtain ⟨pb,pc,hpv,_,_⟩:=HRow.out.form (by omega)
      simp only [Value.slice.injEq,true_and] at hpv
      obtain ⟨rfl,rfl⟩:=hpv
      have c0:wr.cell? ⟨pb,k,none⟩=some (.pointer (some ⟨(L.all m)[k],0,none⟩)):=by
        rw [HRow.out.cellAt k (by omega)]
        simp [hb,optr]
      have od:OdAt wr (L.all m)[k] m.all[k]:=(HF.out k _ _ (by simp [hb]) (by simp [hlt])).below hB
      have o0:=(od 0 _ rfl).cell
      have o1:=(od 1 _ rfl).cell
      have HAk:=hide (HA.out k _ _ (List.getElem?_eq_getElem hb) (List.getElem?_eq_getElem hlt))
      have HN:=hide (show ¬ (m.all[k].t=t∧m.all[k].id=id)→∀ o:Od,o∈m.all.take (k+1)→¬ (o.t=t∧o.id=id) from fun hh o ho=>by
        rw [List.take_add_one,List.getElem?_eq_getElem hlt,List.mem_append] at ho
        rcases ho with ho | ho
        · exact hn o ho
        · simp only [Option.toList,List.mem_singleton] at ho
          rw [ho];exact hh)
      generalize m.all[k]=o at *
      generalize (L.all m)[k]=x at *
      have HB:=hide hB
      clear od hn HA HF hB
      by_cases e1:o.t=t
      · by_cases e2:o.id=id
        · have HP:Hid (∀ e,e = .returned (.pointer (some ⟨x,0,none⟩))→FindPost w L m t id e wr):=hide fun e he=>by
            obtain ⟨h,g,s,i,a,b,c,d,f⟩:=HAk.out
            exact ⟨HB.out,.inr ⟨h,g,s,i,x,o,⟨a,b,c⟩,d,f,e1,e2,he⟩⟩
          go_wp2
          go_ret
          exact HP.out _ rfl
        · have HP:=hide (HN.out (fun q=>e2 q.2))
          go_wp2
          exact ⟨⟨k+1,by omega,by go_num,trivial,HP.out⟩,by simp [intOf];omega⟩
      · have HP:=hide (HN.out (fun q=>e1 q.1))
        go_wp2
        exact ⟨⟨k+1,by omega,by go_num,trivial,HP.out⟩,by simp [intOf];omega⟩
    · have HP:Hid (∀ e,e = .returned (.pointer none)→FindPost w L m t id e wr):=hide fun e he=>⟨hB,.inl ⟨he,by rwa [List.take_of_length_le (by omega)] at hn⟩⟩
      clear hn
      go_wp2
      go_ret
      exact HP.out _ rfl
end

section
open Go.RowKit Go.Sort

theorem TbPost.pp {w w':World} {L:PL} {m m':Mt} {h g s:Nat} {ys:List Nat} (q:at3 m h g s) (hG:m'.G=m.G) (hH:m'.H=m.H) (hys:∀ i b:Nat,ys[i]? = some b→∃ i':Nat,(L.ob h g s)[i']? = some b) (P:TbPost w L h g s ys m' w'):PPost w L m m' w':=by
  obtain ⟨v,R',hv⟩:=P.rep
  refine ⟨P.kp.mono fun b f=>?_,L.setQ h g s v ys,⟨rfl,rfl,rfl⟩,sub_setQ hG hH q hv hys,R'⟩
  rcases f with f | f | f
  · exact .inl ⟨.ab,congrArg some f.symm⟩
  · exact .inl ⟨.qb h g s,by simp only [PL.F,q,if_true];exact congrArg some f.symm⟩
  · exact .inl ⟨.qv h g s,by simp only [PL.F,q,if_true];exact f⟩

def backM (m:Mt) (h g s i:Nat) (o:Od):Mt:=releaseM (m.setBk h g s ((m.bk h g s).eraseIdx i)) o.t.toNat h g s o

structure Spot (m:Mt) (t id:Int) (h g s i:Nat) (o:Od):Prop where
  q:at3 m h g s
  ho:(m.bk h g s)[i]? = some o
  t:o.t=t
  id:o.id=id

def NoSpot (m:Mt) (t id:Int):Prop:=∀ o:Od,o∈m.all→¬ (o.t=t∧o.id=id)

def Cancels (m:Mt) (t id:Int) (c:Int) (m':Mt):Prop :=
  (¬ okI m.T t∧c=2∧m'=m)∨(okI m.T t∧NoSpot m t id∧c=9∧m'=m)∨(okI m.T t∧∃ h g s i o,Spot m t id h g s i o∧c=0∧m'=backM m h g s i o)

def CanPost (w:World) (L:PL) (m:Mt) (t id:Int) (e:Ending) (w':World):Prop:=∃ c m',Cancels m t id c m'∧e = .returned (.int .i64 c)∧PPost w L m m' w'

theorem PPost.after {w w1 w2:World} {L:PL} {m m':Mt} (k:Kep non w w1) (P:PPost w1 L m m' w2):PPost w L m m' w2:=by
  obtain ⟨L',e,hs,R⟩:=P.rep
  exact ⟨k.none.trans P.kp,L',e,fun b hb=>(hs b hb).imp id fun f=>Nat.le_trans k.size f,R⟩

theorem back_any (w:World) (L:PL) (m:Mt) (N:Int) (R:PRep w L m) (ok:m.Ok N) {t id:Int} {h g s i x:Nat} {o:Od} (S:Spot m t id h g s i o) (hi:(L.ob h g s)[i]? = some x) :
    Calls Tryz.prog 65 #[.pointer (some ⟨L.x,0,none⟩),.pointer (some ⟨x,0,none⟩)] w fun e w'=>e = .returned (.tuple #[])∧PPost w L m (backM m h g s i o) w':=by
  have oo:=ok.od h g s o S.q.1 S.q.2.1 S.q.2.2 (List.mem_of_getElem? S.ho)
  refine (takeBack_any w L m N R ok ok.bN o S.q hi S.ho ?_ (t:=o.t.toNat) (by have:=oo.t;omega)).mono fun e w' ⟨h1,h2⟩=>⟨h1,?_⟩
  · have:=R.ln h g s S.q
    have h60:=ok.a60
    have:=len_bk (m:=m) S.q
    omega
  · refine h2.pp S.q ?_ ?_ ?_
    · show (releaseM _ _ _ _ _ _).G=_;unfold releaseM;split <;> rfl
    · show (releaseM _ _ _ _ _ _).H=_;unfold releaseM;split <;> rfl
    · intro j b hj
      obtain ⟨n,hn⟩:=List.mem_iff_getElem?.1 (List.mem_of_mem_eraseIdx (List.mem_of_getElem? hj))
      exact ⟨n,hn⟩

set_option maxRecDepth 100000 in
set_option maxHeartbeats 4000000 in
theorem cancel_any (w:World) (L:PL) (m:Mt) (N t id:Int) (R:PRep w L m) (ok:m.Ok N) :
    Calls Tryz.prog 18 #[.pointer (some ⟨L.x,0,none⟩),.int .i64 t,.int .i64 id] w fun e w'=>CanPost w L m t id e w':=by
  have c2:=R.cA.cell
  have bT:=ok.T8
  by_cases ht:okI m.T t
  · have i1:=hide (inB_okI ht)
    have HF:=hide (find_any w L m N t id R ok)
    go_enter Tryz.func18,Tryz.ntmps18
    go_wp2_with (first | (go_at_call 63;refine (hasTrader_b _ _ _ _ _ _ bT c2).mono ?_;rw [i1.out];rintro e w ⟨rfl,rfl⟩))
    refine HF.out.mono ?_
    rintro e W ⟨hB,(⟨rfl,hn⟩ | ⟨h,g,s,i,x,o,q,hi,ho,et,eid,rfl⟩)⟩
    · have HP:=hide (show CanPost w L m t id (.returned (.int .i64 9)) W from ⟨9,m,.inr (.inl ⟨ht,hn,rfl,rfl⟩),rfl,.same R (Kep.of_below hB)⟩)
      go_wp2
      go_ret
      exact HP.out
    · have HT:=hide ((back_any W L m N (R.bel hB) ok ⟨q,ho,et,eid⟩ hi))
      have HK:=hide (Kep.of_below (S:=non) hB)
      have HP:=hide (show ∀ W',PPost W L m (backM m h g s i o) W'→CanPost w L m t id (.returned (.int .i64 0)) W' from fun W' P=>⟨0,_,.inr (.inr ⟨ht,h,g,s,i,o,⟨q,ho,et,eid⟩,rfl,rfl⟩),rfl,P.after HK.out⟩)
      go_wp2_with fail
      refine HT.out.mono ?_
      rintro e W' ⟨rfl,P⟩
      have HP':=hide (HP.out _ P)
      clear P
      go_wp2
      go_ret
      exact HP'.out
  · have i1:=hide (inB_not ht)
    have HP:=hide (show CanPost w L m t id (.returned (.int .i64 2)) w from ⟨2,m,.inl ⟨ht,rfl,rfl⟩,rfl,.same R (Kep.refl _ _)⟩)
    go_enter Tryz.func18,Tryz.ntmps18
    go_wp2_with (first | (go_at_call 63;refine (hasTrader_b _ _ _ _ _ _ bT c2).mono ?_;rw [i1.out];rintro e w ⟨rfl,rfl⟩))
    go_ret
    exact HP.out
end

section
open Go.RowKit Go.Sort

def holdH (m:Mt) (t h g s:Nat) (o:Od):Mt:=if s=0 then m.setMo t (m.mo t - o.p * o.q) else m.setPc t h g (m.pc t h g - o.q)

structure HPost (w:World) (L:PL) (m':Mt) (w':World):Prop where
  kp:Kep (fun b=>b=L.ab) w w'
  rep:PRep w' L m'

structure HOk (m:Mt) (h g s:Nat) (o:Od):Prop where
  T:0≤o.t∧o.t<m.T
  h4:h<4
  g4:g<4
  s2:s<2
  eh:o.h=h
  eg:o.g=g
  es:o.s=s
  p:0≤o.p∧o.p≤100000
  q:0≤o.q∧o.q≤10000
  mo:0≤m.mo o.t.toNat∧m.mo o.t.toNat≤10000000000000
  pc:0≤m.pc o.t.toNat h g∧m.pc o.t.toNat h g≤10000000000000

theorem release_h (w:World) (L:PL) (m:Mt) (R:PRep w L m) {x h g s:Nat} {o:Od} (ho:OdAt w x o) (O:HOk m h g s o) :
    Calls Tryz.prog 47 #[.pointer (some ⟨L.x,0,none⟩),.pointer (some ⟨x,0,none⟩)] w fun e w'=>e = .returned (.tuple #[])∧HPost w L (releaseM m o.t.toNat h g s o) w':=by
  have et:o.t=(o.t.toNat:Int):=by have:=O.T;omega
  have ht:o.t.toNat<m.T:=by have:=O.T;omega
  by_cases e:s=0
  · subst e
    refine (release_buy w L m R x _ o ho et ht O.mo O.es O.p O.q).mono ?_
    rintro e w' ⟨rfl,k,rfl⟩
    rw [releaseM,if_pos rfl]
    exact ⟨rfl,((Kep.refl (fun b=>b=L.ab) w).drewN k).setCell (p:=⟨L.ab,o.t.toNat * 17,none⟩) (.inl rfl) _,(R.later ((Kep.refl non w).drewN k)).setMo _ ht _⟩
  · obtain rfl:s=1:=by have:=O.s2;omega
    refine (release_sell w L m R x _ h g o ho et O.eh O.eg ht O.h4 O.g4 O.pc O.es O.q).mono ?_
    rintro e w' ⟨rfl,k,rfl⟩
    rw [releaseM,if_neg (by decide)]
    exact ⟨rfl,((Kep.refl (fun b=>b=L.ab) w).drewN k).setCell (p:=⟨L.ab,o.t.toNat * 17+1+h * 4+g,none⟩) (.inl rfl) _,(R.later ((Kep.refl non w).drewN k)).setPc _ h g ht O.h4 O.g4 _⟩

theorem hold_h (w:World) (L:PL) (m:Mt) (R:PRep w L m) {x h g s:Nat} {o:Od} (ho:OdAt w x o) (O:HOk m h g s o) :
    Calls Tryz.prog 43 #[.pointer (some ⟨L.x,0,none⟩),.pointer (some ⟨x,0,none⟩)] w fun e w'=>e = .returned (.tuple #[])∧HPost w L (holdH m o.t.toNat h g s o) w':=by
  have et:o.t=(o.t.toNat:Int):=by have:=O.T;omega
  have ht:o.t.toNat<m.T:=by have:=O.T;omega
  by_cases e:s=0
  · subst e
    refine (hold_buy w L m R x _ o ho et ht O.mo O.es O.p O.q).mono ?_
    rintro e w' ⟨rfl,k,rfl⟩
    rw [holdH,if_pos rfl]
    exact ⟨rfl,((Kep.refl (fun b=>b=L.ab) w).drewN k).setCell (p:=⟨L.ab,o.t.toNat * 17,none⟩) (.inl rfl) _,(R.later ((Kep.refl non w).drewN k)).setMo _ ht _⟩
  · obtain rfl:s=1:=by have:=O.s2;omega
    refine (hold_sell w L m R x _ h g o ho et O.eh O.eg ht O.h4 O.g4 O.pc O.es O.q).mono ?_
    rintro e w' ⟨rfl,k,rfl⟩
    rw [holdH,if_neg (by decide)]
    exact ⟨rfl,((Kep.refl (fun b=>b=L.ab) w).drewN k).setCell (p:=⟨L.ab,o.t.toNat * 17+1+h * 4+g,none⟩) (.inl rfl) _,(R.later ((Kep.refl non w).drewN k)).setPc _ h g ht O.h4 O.g4 _⟩

theorem releaseM_bk (m:Mt) (t h g s:Nat) (o:Od):(releaseM m t h g s o).bk=m.bk∧(releaseM m t h g s o).T=m.T∧(releaseM m t h g s o).G=m.G∧(releaseM m t h g s o).H=m.H:=by
  unfold releaseM;split <;> exact ⟨rfl,rfl,rfl,rfl⟩
theorem holdM_bk' (m:Mt) (t h g s:Nat) (o:Od):(holdH m t h g s o).bk=m.bk∧(holdH m t h g s o).T=m.T∧(holdH m t h g s o).G=m.G∧(holdH m t h g s o).H=m.H:=by
  unfold holdH;split <;> exact ⟨rfl,rfl,rfl,rfl⟩

def lessM (m:Mt) (h g s i:Nat) (o:Od) (n:Int):Mt :=
  holdH ((releaseM m o.t.toNat h g s o).setBk h g s ((m.bk h g s).set i { o with q:=n })) o.t.toNat h g s { o with q:=n }

set_option maxRecDepth 100000 in
set_option maxHeartbeats 4000000 in
theorem lessen_any (w:World) (L:PL) (m:Mt) (R:PRep w L m) {t id:Int} {h g s i x:Nat} {o:Od} (S:Spot m t id h g s i o) (hi:(L.ob h g s)[i]? = some x) (O:HOk m h g s o) (n:Int) (O2:HOk ((releaseM m o.t.toNat h g s o).setBk h g s ((m.bk h g s).set i { o with q:=n })) h g s { o with q:=n }) :
    Calls Tryz.prog 69 #[.pointer (some ⟨L.x,0,none⟩),.pointer (some ⟨x,0,none⟩),.int .i64 n] w fun e w'=>e = .returned (.tuple #[])∧PPost w L m (lessM m h g s i o n) w':=by
  have hod:OdAt w x o:=fun j v hv=>R.oc h g s i x o S.q hi S.ho j v hv
  have xab:¬ x=L.ab:=fun f=>by
    have:=R.inj (.ob h g s i) .ab x (by simp only [PL.F,S.q,if_true];exact hi) (by simp only [PL.F];exact congrArg some f.symm)
    cases this
  have HL:=hide (release_h w L m R hod O)
  have HF:=hide (show ∀ W,HPost w L (releaseM m o.t.toNat h g s o) W→OdAt W x o∧Calls Tryz.prog 43 #[.pointer (some ⟨L.x,0,none⟩),.pointer (some ⟨x,0,none⟩)] (W.setCell ⟨x,6,none⟩ (.int .i64 n)) fun e w'=>e = .returned (.tuple #[])∧PPost w L m (lessM m h g s i o n) w' from fun W P=>by
    have od1:OdAt W x o:=fun j v hv=>(hod j v hv).kep P.kp xab
    have q1:at3 (releaseM m o.t.toNat h g s o) h g s:=by
      obtain ⟨_,_,e2,e3⟩:=releaseM_bk m o.t.toNat h g s o
      exact ⟨by rw [e3];exact S.q.1,by rw [e2];exact S.q.2.1,S.q.2.2⟩
    have R1:=P.rep.setOq q1 hi (o:=o) (by rw [(releaseM_bk m o.t.toNat h g s o).1];exact S.ho) n
    rw [(releaseM_bk m o.t.toNat h g s o).1] at R1
    refine ⟨od1,(hold_h _ L _ R1 (od1.setQ n) O2).mono fun e w' ⟨h1,h2⟩=>⟨h1,?_⟩⟩
    have dim:(lessM m h g s i o n).H=m.H∧(lessM m h g s i o n).G=m.G:=by
      obtain ⟨_,_,e2,e3⟩:=releaseM_bk m o.t.toNat h g s o
      obtain ⟨_,_,f2,f3⟩:=holdM_bk' ((releaseM m o.t.toNat h g s o).setBk h g s ((m.bk h g s).set i { o with q:=n })) o.t.toNat h g s { o with q:=n }
      exact ⟨f3.trans e3,f2.trans e2⟩
    refine ⟨?_,L,⟨rfl,rfl,rfl⟩,fun b hb=>.inl (S_eq (m:=m) dim.1 dim.2 hb),h2.rep⟩
    have sab:L.S m L.ab:=⟨.ab,rfl⟩
    have sx:L.S m x:=⟨.ob h g s i,by simp only [PL.F,S.q,if_true];exact hi⟩
    refine ((P.kp.mono (S':=L.S m) (fun b f=>.inl (f ▸ sab))).setCell (p:=⟨x,6,none⟩) (.inl sx) _).trans (h2.kp.mono (fun b f=>.inl (f ▸ sab))))
  clear hod xab R
  go_enter Tryz.func69,Tryz.ntmps69
  go_wp2_with fail
  refine HL.out.mono ?_
  rintro e W ⟨rfl,P⟩
  obtain ⟨od1,hc⟩:=HF.out W P
  have HC:=hide hc
  obtain ⟨c6,f6⟩:=od1 6 _ rfl
  clear P hc HF HL od1
  go_wp2_with fail
  refine HC.out.mono ?_
  rintro e w' ⟨rfl,P⟩
  have HP:=hide P
  clear P
  go_wp2
  go_end0
  exact ⟨rfl,HP.out⟩
end

section
open Go.RowKit Go.Sort

theorem OdAt.setId {w:World} {x:Nat} {o:Od} (h:OdAt w x o) (n:Int):OdAt (w.setCell ⟨x,0,none⟩ (.int .i64 n)) x { o with id:=n }:=by
  intro j v hv
  by_cases e:j=0
  · subst e
    obtain rfl:Value.int .i64 n=v:=by simpa [Od.cells] using hv
    exact (h 0 _ rfl).set rfl _
  · have hv':o.cells[j]? = some v:=by
      rcases j with _ | j
      · exact absurd rfl e
      · exact hv
    exact (h j v hv').set_other (by intro q;injection q with _ q _;exact e q) rfl rfl _

structure TdPost (w:World) (L:PL) (m m':Mt) (v:Value) (ts:List Td) (w':World):Prop where
  kp:Kep (L.S m) w w'
  rep:∃ L',(L'.x=L.x∧L'.rb=L.rb∧L'.bb=L.bb)∧(∀ b,L'.S m' b→L.S m b∨w.heap.size≤b)∧PRep w' L' m'∧(∀ b,v.ownBlock=some b→¬ L'.S m' b)
  tr:w'.ownsRow w.heap.size 67 6 v ts.length (tdCells ts)

theorem ownsRow_base {w:World} {b b':Nat} {e:TypeId} {size:Nat} {v:Value} {n:Nat} {xs:List Value} (h:w.ownsRow b e size v n xs) (hb:∀ g,v.ownBlock=some g→b'≤g):w.ownsRow b' e size v n xs:=by
  refine ⟨h.1,?_⟩
  rcases h.2 with hn | ⟨g,cap,cur,rfl,_,rest⟩
  · exact .inl hn
  · exact .inr ⟨g,cap,cur,rfl,hb g rfl,rest⟩

structure PlSt (w:World) (L:PL) (m0 m:Mt) (o:Od) (W:World):Prop where
  R:PRep W L m
  ob:OdAt W w.heap.size o
  pl:Plain W w.heap.size
  k:Kep (L.S m0) w W
  lx:w.heap.size<W.heap.size
  nx:¬ L.S m w.heap.size
  xr:w.heap.size≠L.rb
  xb:w.heap.size≠L.bb
  d:m.T=m0.T∧m.G=m0.G∧m.H=m0.H

theorem PlSt.later {w:World} {L:PL} {m0 m:Mt} {o:Od} {W W':World} (S:PlSt w L m0 m o W) (k:Kep non W W'):PlSt w L m0 m o W' :=
  ⟨S.R.later k,fun j v hv=>(S.ob j v hv).kep k (fun f=>f),S.pl.kep k (fun f=>f),S.k.trans k.none,Nat.lt_of_lt_of_le S.lx k.size,S.nx,S.xr,S.xb,S.d⟩

theorem PlSt.start {w:World} {L:PL} {m:Mt} {N:Int} (R:PRep w L m) (ok:m.Ok N) (o:Od):PlSt w L m m o (w.alloc (.cells #[.int .i64 o.id,.int .i64 o.t,.int .i64 o.h,.int .i64 o.g,.int .i64 o.s,.int .i64 o.p,.int .i64 o.q,.int .i64 o.w] 40)):=by
  have S:=RfSt.start w o
  have hb:=R.rblt ok.H1
  exact ⟨R.later S.kp,S.ob,⟨_,_,heap_alloc_new w _⟩,S.kp.none,by simp,fun f=>by have:=R.lt ok.T1 ok.G1 _ f;omega,by omega,by omega,rfl,rfl,rfl⟩

theorem PlSt.write {w:World} {L:PL} {m0 m m':Mt} {o:Od} {W:World} (S:PlSt w L m0 m o W) {p:Addr} (v:Value) (hp:L.S m p.block) (R':PRep (W.setCell p v) L m') (d:m'.T=m.T∧m'.G=m.G∧m'.H=m.H):PlSt w L m0 m' o (W.setCell p v):=by
  have hS:∀ b,L.S m' b→L.S m b:=fun b hb=>S_eq d.2.2 d.2.1 hb
  have hS0:∀ b,L.S m b→L.S m0 b:=fun b hb=>S_eq S.d.2.2 S.d.2.1 hb
  have hne:w.heap.size≠p.block:=fun f=>S.nx (f ▸ hp)
  have k:Kep (fun b=>b=p.block) W (W.setCell p v):=(Kep.refl (fun b=>b=p.block) W).setCell (.inl rfl) v
  exact ⟨R',fun j u hu=>(S.ob j u hu).kep k hne,S.pl.set _ _,S.k.setCell (.inl (hS0 _ hp)) _,by have:=S.lx;simpa using this,fun f=>S.nx (hS _ f),S.xr,S.xb,d.1.trans S.d.1,d.2.1.trans S.d.2.1,d.2.2.trans S.d.2.2⟩

theorem PlSt.id {w:World} {L:PL} {m0 m:Mt} {o:Od} {W:World} (S:PlSt w L m0 m o W) (n:Int):PlSt w L m0 m { o with id:=n } (W.setCell ⟨w.heap.size,0,none⟩ (.int .i64 n)):=by
  have k:Kep (fun b=>b=w.heap.size) W (W.setCell ⟨w.heap.size,0,none⟩ (.int .i64 n)):=(Kep.refl (fun b=>b=w.heap.size) W).setCell (p:=⟨w.heap.size,0,none⟩) (.inl rfl) _
  exact ⟨S.R.keep k (fun b hb e=>S.nx (e ▸ hb)) (fun e=>S.xr e.symm) (fun e=>S.xb e.symm),S.ob.setId n,S.pl.set _ _,S.k.setCell (p:=⟨w.heap.size,0,none⟩) (.inr (Nat.le_refl _)) _,by have:=S.lx;simpa using this,S.nx,S.xr,S.xb,S.d⟩

theorem PlSt.num {w:World} {L:PL} {m0 m:Mt} {o:Od} {W:World} (S:PlSt w L m0 m o W) (n:Int):PlSt w L m0 { m with nu:=n } o (W.setCell ⟨L.x,5,none⟩ (.int .i64 n)) :=
  S.write (p:=⟨L.x,5,none⟩) _ ⟨.x,rfl⟩ (S.R.setNu n) ⟨rfl,rfl,rfl⟩

theorem hold_pl {w:World} {L:PL} {m0 m:Mt} {o:Od} {W:World} (S:PlSt w L m0 m o W) {N:Int} (ok:m.Ok N) (ht:0≤o.t∧o.t<m.T) (hh:0≤o.h∧o.h<m.H) (hg:0≤o.g∧o.g<m.G) (hs:0≤o.s∧o.s≤1) (hp:1≤o.p∧o.p≤100000) (hq:1≤o.q∧o.q≤10000) :
    Calls Tryz.prog 43 #[.pointer (some ⟨L.x,0,none⟩),.pointer (some ⟨w.heap.size,0,none⟩)] W fun e w'=>e = .returned (.tuple #[])∧PlSt w L m0 (holdM m o) o w':=by
  obtain ⟨t,et⟩ : ∃ t:Nat,o.t=t:=⟨o.t.toNat,by omega⟩
  obtain ⟨h,eh⟩ : ∃ h:Nat,o.h=h:=⟨o.h.toNat,by omega⟩
  obtain ⟨g,eg⟩ : ∃ g:Nat,o.g=g:=⟨o.g.toNat,by omega⟩
  have tot:o.t.toNat=t:=by omega
  have toh:o.h.toNat=h:=by omega
  have tog:o.g.toNat=g:=by omega
  have bN:=ok.bN
  by_cases e:o.s=0
  · refine (hold_buy W L m S.R w.heap.size t o S.ob et (by omega) (by have:=ok.mo t (by omega);omega) e (by omega) (by omega)).mono ?_
    rintro en w' ⟨rfl,k,rfl⟩
    refine ⟨rfl,?_⟩
    have S1:=S.later ((Kep.refl non W).drewN k)
    rw [holdM,if_pos e,tot]
    exact S1.write (p:=⟨L.ab,t * 17,none⟩) _ ⟨.ab,rfl⟩ (S1.R.setMo t (by omega) _) ⟨rfl,rfl,rfl⟩
  · have e1:o.s=1:=by omega
    have h4:h<4:=by have:=ok.H4;omega
    have g4:g<4:=by have:=ok.G4;omega
    refine (hold_sell W L m S.R w.heap.size t h g o S.ob et eh eg (by omega) h4 g4 (by have:=ok.pc t h g (by omega) (by omega) (by omega);omega) e1 (by omega)).mono ?_
    rintro en w' ⟨rfl,k,rfl⟩
    refine ⟨rfl,?_⟩
    have S1:=S.later ((Kep.refl non W).drewN k)
    rw [holdM,if_neg e,tot,toh,tog]
    exact S1.write (p:=⟨L.ab,t * 17+1+h * 4+g,none⟩) _ ⟨.ab,rfl⟩ (S1.R.setPc t h g (by omega) h4 g4 _) ⟨rfl,rfl,rfl⟩

structure PmSt (w:World) (L:PL) (m0:Mt) (L':PL) (m:Mt) (o:Od) (tv:Value) (ts:List Td) (W:World):Prop where
  R:PRep W L' m
  ob:OdAt W w.heap.size o
  pl:Plain W w.heap.size
  k:Kep (L.S m0) w W
  nx:¬ L'.S m w.heap.size
  xr:w.heap.size≠L'.rb
  xb:w.heap.size≠L'.bb
  ex:L'.x=L.x∧L'.rb=L.rb∧L'.bb=L.bb
  sub:∀ b,L'.S m b→L.S m0 b∨w.heap.size≤b
  tn:∀ b,tv.ownBlock=some b→w.heap.size<b∧¬ L'.S m b
  tr:W.ownsRow 0 67 6 tv ts.length (tdCells ts)

theorem PlSt.match {w:World} {L:PL} {m0 m:Mt} {o:Od} {W:World} (S:PlSt w L m0 m o W) {N:Int} {h g s:Nat} (M:Mid h g s N m o) :
    Calls Tryz.prog 44 #[.pointer (some ⟨L.x,0,none⟩),.pointer (some ⟨w.heap.size,0,none⟩)] W fun e w'=>∃ tv L',e = .returned tv∧PmSt w L m0 L' (matchM h g s (m.bk h g s) m o).1 (matchM h g s (m.bk h g s) m o).2.1 tv (matchM h g s (m.bk h g s) m o).2.2 w':=by
  refine (match_any W L m N (run_mid h g s N) S.R w.heap.size o M S.ob S.pl S.nx S.xr S.xb).mono ?_
  rintro e w' ⟨tv,L',rfl,T⟩
  have hS0:∀ b,L.S m b→L.S m0 b:=fun b hb=>S_eq S.d.2.2 S.d.2.1 hb
  refine ⟨tv,L',rfl,T.R,T.c,T.pl,S.k.trans' T.k (fun i hi=>?_),T.nx,T.xr,T.xq,⟨T.ex.1,T.ex.2.2.2.1,T.ex.2.2.2.2.1⟩,fun b hb=>?_,fun b hb=>⟨?_,(T.tn b hb).2⟩,T.tr⟩
  · rcases hi with f | f
    · exact .inl (hS0 _ f)
    · exact .inr (by omega)
  · rcases T.sub b hb with f | f
    · exact .inl (hS0 _ f)
    · exact .inr (by have:=S.lx;omega)
  · have:=(T.tn b hb).1
    have:=S.lx
    omega

theorem PmSt.later {w:World} {L:PL} {m0:Mt} {L':PL} {m:Mt} {o:Od} {tv:Value} {ts:List Td} {W W':World} (S:PmSt w L m0 L' m o tv ts W) (k:Kep non W W'):PmSt w L m0 L' m o tv ts W' :=
  ⟨S.R.later k,fun j v hv=>(S.ob j v hv).kep k (fun f=>f),S.pl.kep k (fun f=>f),S.k.trans k.none,S.nx,S.xr,S.xb,S.ex,S.sub,S.tn,ownsRow_kep S.tr k (fun _ _ f=>f)⟩

theorem PmSt.free {w:World} {L:PL} {m0:Mt} {L':PL} {m m':Mt} {o:Od} {tv:Value} {ts:List Td} {W:World} (S:PmSt w L m0 L' m o tv ts W) {p:Addr} (v:Value) (hp:L'.S m p.block) (R':PRep (W.setCell p v) L' m') (d:m'.T=m.T∧m'.G=m.G∧m'.H=m.H):TdPost w L m0 m' tv ts (W.setCell p v):=by
  have hS:∀ b,L'.S m' b→L'.S m b:=fun b hb=>S_eq d.2.2 d.2.1 hb
  have k:Kep (fun b=>b=p.block) W (W.setCell p v):=(Kep.refl (fun b=>b=p.block) W).setCell (.inl rfl) v
  refine ⟨S.k.setCell (S.sub _ hp) _,⟨L',S.ex,fun b hb=>S.sub b (hS b hb),R',fun b hb f=>(S.tn b hb).2 (hS b f)⟩,?_⟩
  refine ownsRow_base (ownsRow_kep S.tr k (fun b hb f=>(S.tn b hb).2 (f ▸ hp))) (fun b hb=>?_)
  have:=(S.tn b hb).1
  omega

theorem release_pm {w:World} {L:PL} {m0:Mt} {L':PL} {m:Mt} {o:Od} {tv:Value} {ts:List Td} {W:World} (S:PmSt w L m0 L' m o tv ts W) {N:Int} (ok:m.Ok N) (ht:0≤o.t∧o.t<m.T) (hh:0≤o.h∧o.h<m.H) (hg:0≤o.g∧o.g<m.G) (hs:0≤o.s∧o.s≤1) (hp:1≤o.p∧o.p≤100000) (hq:0≤o.q∧o.q≤10000) :
    Calls Tryz.prog 47 #[.pointer (some ⟨L.x,0,none⟩),.pointer (some ⟨w.heap.size,0,none⟩)] W fun e w'=>e = .returned (.tuple #[])∧TdPost w L m0 (releaseM m o.t.toNat o.h.toNat o.g.toNat o.s.toNat o) tv ts w'∧w'.cell? ⟨w.heap.size,0,none⟩=some (.int .i64 o.id):=by
  obtain ⟨t,et⟩ : ∃ t:Nat,o.t=t:=⟨o.t.toNat,by omega⟩
  obtain ⟨h,eh⟩ : ∃ h:Nat,o.h=h:=⟨o.h.toNat,by omega⟩
  obtain ⟨g,eg⟩ : ∃ g:Nat,o.g=g:=⟨o.g.toNat,by omega⟩
  have tot:o.t.toNat=t:=by omega
  have toh:o.h.toNat=h:=by omega
  have tog:o.g.toNat=g:=by omega
  have bN:=ok.bN
  have hab:w.heap.size≠L'.ab:=fun f=>S.nx ⟨.ab,by rw [f];rfl⟩
  rw [tot,toh,tog,← S.ex.1]
  by_cases e:o.s=0
  · refine (release_buy W L' m S.R w.heap.size t o S.ob et (by omega) (by have:=ok.mo t (by omega);omega) e (by omega) (by omega)).mono ?_
    rintro en w' ⟨rfl,k,rfl⟩
    have S1:=S.later ((Kep.refl non W).drewN k)
    refine ⟨rfl,?_,?_⟩
    · rw [releaseM,if_pos (by omega)]
      exact S1.free (p:=⟨L'.ab,t * 17,none⟩) _ ⟨.ab,rfl⟩ (S1.R.setMo t (by omega) _) ⟨rfl,rfl,rfl⟩
    · rw [World.cell?_setCell_other _ _ _ _ (by intro q;injection q with q _ _;exact hab q.symm)]
      exact (S1.ob 0 _ rfl).cell
  · have e1:o.s=1:=by omega
    have h4:h<4:=by have:=ok.H4;omega
    have g4:g<4:=by have:=ok.G4;omega
    refine (release_sell W L' m S.R w.heap.size t h g o S.ob et eh eg (by omega) h4 g4 (by have:=ok.pc t h g (by omega) (by omega) (by omega);omega) e1 (by omega)).mono ?_
    rintro en w' ⟨rfl,k,rfl⟩
    have S1:=S.later ((Kep.refl non W).drewN k)
    refine ⟨rfl,?_,?_⟩
    · rw [releaseM,if_neg (by omega)]
      exact S1.free (p:=⟨L'.ab,t * 17+1+h * 4+g,none⟩) _ ⟨.ab,rfl⟩ (S1.R.setPc t h g (by omega) h4 g4 _) ⟨rfl,rfl,rfl⟩
    · rw [World.cell?_setCell_other _ _ _ _ (by intro q;injection q with q _ _;exact hab q.symm)]
      exact (S1.ob 0 _ rfl).cell

theorem add_pm {w:World} {L:PL} {m0:Mt} {L':PL} {m:Mt} {o:Od} {tv:Value} {ts:List Td} {W:World} (S:PmSt w L m0 L' m o tv ts W) {N:Int} (ok:m.Ok N) {h g s:Nat} (q:at3 m h g s) (eh:o.h=h) (eg:o.g=g) (es:o.s=s) :
    Calls Tryz.prog 46 #[.pointer (some ⟨L'.qb h g s,0,none⟩),.pointer (some ⟨w.heap.size,0,none⟩)] W fun e w'=>e = .returned (.tuple #[])∧TdPost w L m0 (waitM m o) tv ts w'∧w'.cell? ⟨w.heap.size,0,none⟩=some (.int .i64 o.id):=by
  have ln:=S.R.ln h g s q
  have h60:(m.bk h g s).length≤60:=Nat.le_trans (len_bk q) ok.a60
  refine (add_q W L' m N S.R ok o q S.ob S.pl S.nx S.xr S.xb (by rw [ln];omega)).mono ?_
  rintro e w' ⟨rfl,Q⟩
  have hkS:∀ b,(b=L'.qb h g s∨(L'.qv h g s).ownBlock=some b)→L'.S m b:=fun b f=>by
    rcases f with f | f
    · exact ⟨.qb h g s,by simp [PL.F,q,f]⟩
    · exact ⟨.qv h g s,by simp only [PL.F,q,if_true];exact f⟩
  have hid:=((S.ob 0 _ rfl).kep Q.kp (fun f=>S.nx (hkS _ f))).cell
  obtain ⟨v,R',hv⟩:=Q.rep
  have lz:w.heap.size<W.heap.size:=S.pl.lt
  have ltv:∀ b,tv.ownBlock=some b→b<W.heap.size:=fun b hb=>(S.tr.lt b hb).2
  have sub:∀ b,(L'.setQ h g s v (putAt (L'.ob h g s) (slot (ahAt (m.bk h g s) s o) (L'.ob h g s).length) w.heap.size)).S (m.setBk h g s (putAt (m.bk h g s) (slot (ahAt (m.bk h g s) s o) (L'.ob h g s).length) o)) b→L'.S m b∨W.heap.size≤b∨b=w.heap.size:=by
    rintro b ⟨j,hj⟩
    rcases F_setQ hj with ⟨e,_,_⟩ | ⟨_,e⟩ | ⟨i,_,e⟩
    · exact .inl ⟨j,e⟩
    · rcases hv b e with f | f
      · exact .inl (hkS _ (.inr f))
      · exact .inr (.inl f)
    · have hm:=List.mem_of_getElem? e
      rcases mem_put hm with f | f
      · exact .inr (.inr f)
      · obtain ⟨i',e'⟩:=List.mem_iff_getElem?.1 f
        exact .inl ⟨.ob h g s i',by simp only [PL.F,q,if_true];exact e'⟩
  have eW:waitM m o=m.setBk h g s (putAt (m.bk h g s) (slot (ahAt (m.bk h g s) s o) (L'.ob h g s).length) o):=by
    unfold waitM
    rw [show o.h.toNat=h by omega,show o.g.toNat=g by omega,show o.s.toNat=s by omega,ln]
  refine ⟨rfl,?_,hid⟩
  rw [eW]
  refine ⟨S.k.trans' Q.kp (fun i hi=>S.sub i (hkS i hi)),⟨L'.setQ h g s v (putAt (L'.ob h g s) (slot (ahAt (m.bk h g s) s o) (L'.ob h g s).length) w.heap.size),S.ex,fun b hb=>?_,R',fun b hb f=>?_⟩,?_⟩
  · rcases sub b hb with f | f | f
    · exact S.sub b f
    · exact .inr (by omega)
    · exact .inr (by omega)
  · rcases sub b f with f | f | f
    · exact (S.tn b hb).2 f
    · have:=ltv b hb;omega
    · have:=(S.tn b hb).1;omega
  · refine ownsRow_base (ownsRow_kep S.tr Q.kp (fun b hb f=>(S.tn b hb).2 (hkS _ f))) (fun b hb=>?_)
    have:=(S.tn b hb).1
    omega
end

end Go.Proofs.YtcfoobhihhndjaaGreat
