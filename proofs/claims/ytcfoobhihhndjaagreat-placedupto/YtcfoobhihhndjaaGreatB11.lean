
import Derived.Deep.RegionHeld3
import Derived.Deep.RegionLaw
import Derived.Lib.QuietBelow
import Derived.Test.YtcfoobhihhndjaaGreatB07
import Derived.Test.YtcfoobhihhndjaaGreatB10
namespace Go.Proofs.YtcfoobhihhndjaaGreat

section
open Go.RowKit Go.Sort

def rrowTo (m:Rm) (g i:Nat):Nat→Int
  | 0=>0
  | k+1=>rrowTo m g i k+(m.pc i k g+m.come i k g)
def rtotTo (m:Rm) (g:Nat):Nat→Int
  | 0=>0
  | i+1=>rtotTo m g i+rrowTo m g i m.H

def rbringE (r:Rm) (t h g n:Int):Int:=if rlotsE r t h g n≠0 then rlotsE r t h g n else if 1000000<n+rtotTo r g.toNat r.T then 8 else 0
def rbringM (r:Rm) (t h g n:Int):Rm:=if rbringE r t h g n=0 then r.setPc t.toNat h.toNat g.toNat (r.pc t.toNat h.toNat g.toNat+n) else r

theorem RRep.regrown {w:World} {L:RL} {m:Rm} (R:RRep w L m) (d:Nat) (os:Array Obj):RRep (grow (redrawn w d) os) L m:=R.bel (below_regrown w d os)

theorem rrowTo_bd {m:Rm} {K:Int} (o:m.Ok K) (g i:Nat) (hg:g<m.G) (hi:i<m.T):∀ k,k≤m.H→-(1000010200000 * (k:Int))≤rrowTo m g i k∧rrowTo m g i k≤1000010200000 * (k:Int):=by
  intro k
  induction k with
  | zero=>simp [rrowTo]
  | succ k ih =>
    intro hk
    have h1:=ih (by omega)
    have h2:=o.pc i k g hi (by omega) hg
    have h3:=o.come_bd i k g
    have k1:=o.K1
    simp only [rrowTo]
    omega

theorem rtotTo_bd {m:Rm} {K:Int} (o:m.Ok K) (g:Nat) (hg:g<m.G):∀ i,i≤m.T→-(4000040800000 * (i:Int))≤rtotTo m g i∧rtotTo m g i≤4000040800000 * (i:Int):=by
  intro i
  induction i with
  | zero=>simp [rtotTo]
  | succ i ih =>
    intro hi
    have h1:=ih (by omega)
    have h2:=rrowTo_bd o g i hg (by omega) m.H (Nat.le_refl _)
    have h3:=o.H4
    simp only [rtotTo]
    omega

set_option maxRecDepth 100000 in
set_option maxHeartbeats 1000000 in
theorem refBring_any (w:World) (L:RL) (m:Rm) (N t h g n:Int) (R:RRep w L m) (o:m.Ok N) :
    Calls Tryz.prog 35 #[.pointer (some ⟨L.c,0,none⟩),.int .i64 t,.int .i64 h,.int .i64 g,.int .i64 n] w fun e w'=>e = .returned (.int .i64 (rbringE m t h g n))∧RPost w L (rbringM m t h g n) w':=by
  have bT:=o.T8
  have bG:=o.G4
  have bH:=o.H4
  have k1:=o.K1
  have k0:=o.K0
  by_cases hl:rlotsE m t h g n=0
  · obtain ⟨⟨t0,t1⟩,⟨h0,h1⟩,⟨g0,g1⟩,⟨n0,n1⟩⟩:=rlotsE_zero hl
    obtain ⟨t,rfl⟩:=Int.eq_ofNat_of_zero_le t0
    obtain ⟨h,rfl⟩:=Int.eq_ofNat_of_zero_le h0
    obtain ⟨g,rfl⟩:=Int.eq_ofNat_of_zero_le g0
    have ht:t<m.T:=by omega
    have hh:h<m.H:=by omega
    have hg:g<m.G:=by omega
    have HL:=hide (lots_any w L m t h g n R)
    rw [hl] at HL
    have HE:=hide (show rbringE m t h g n=if 1000000<n+rtotTo m g m.T then 8 else 0 by unfold rbringE;rw [if_neg (fun f=>f hl)];rfl)
    clear hl
    go_enter Tryz.func35,Tryz.ntmps35
    go_wp2_with fail
    refine HL.out.mono ?_
    rintro e W ⟨rfl,rfl⟩
    clear HL
    go_wp2
    go_loopw [12,13] (fun a i wr=>∃ j:Nat,j≤m.T∧i = .int .i64 j∧a = .int .i64 (n+rtotTo m g j)∧Kep non W wr) (fun _ i _=>m.T - (intOf i).toNat)
    case atStart=>exact ⟨0,Nat.zero_le _,rfl,by simp [rtotTo],Kep.refl _ _⟩
    case round =>
      obtain ⟨j,hj,rfl,rfl,hkp⟩:=hrel
      have Rr:=R.later hkp
      have c0:=Rr.c.cT.cell
      obtain ⟨bt0,bt1⟩:=rtotTo_bd o g hg j hj
      by_cases hlt:j<m.T
      · go_wp2
        go_loopw [12,14] (fun a i wr=>∃ k:Nat,k≤m.H∧i = .int .i64 k∧a = .int .i64 (n+rtotTo m g j+rrowTo m g j k)∧Kep non W wr) (fun _ i _=>m.H - (intOf i).toNat)
        case atStart=>exact ⟨0,Nat.zero_le _,rfl,by simp [rrowTo],hkp⟩
        case round =>
          clear hkp Rr c0
          obtain ⟨k,hk,rfl,rfl,hkp⟩:=hrel
          have Rr:=R.later hkp
          have c2:=Rr.c.cR.cell
          obtain ⟨br0,br1⟩:=rrowTo_bd o g j hg hlt k hk
          by_cases hlk:k<m.H
          · have o':=hide o
            have R':=hide R
            obtain ⟨cm,cf⟩:=Rr.pc j k g hlt hlk hg
            have c4:=cell_regrown Rr.c.cP.cell
            have cm':=cell_regrown cm
            obtain ⟨bm0,bm1⟩:=o.pc j k g hlt hlk hg
            obtain ⟨bc0,bc1⟩:=o.come_bd j k g
            have hq:=lot_lt hlt hlk hg
            have cQ:Hid (∀ d os,Calls Tryz.prog 87 #[.pointer (some ⟨L.c,0,none⟩),.int .i64 j,.int .i64 k,.int .i64 g] (grow (redrawn wr d) os) fun e w''=>e = .returned (.int .i64 (((j * m.H+k) * m.G+g:Nat):Int))∧∃ p:Regrown,w''=grow (redrawn wr p.d) p.os) :=
              hide fun d os=>Calls.regrown_of ((rlot_any _ L m N (Rr.regrown d os) o j k g hlt hlk hg).mono fun _ _ ⟨h1,n,h2⟩=>⟨h1,by rw [h2];exact below_drewN (Below.refl _ _) n⟩)
            have cE:Hid (∀ d os,Calls Tryz.prog 77 #[.pointer (some ⟨L.c,0,none⟩),.int .i64 j,.int .i64 k,.int .i64 g] (grow (redrawn wr d) os) fun e w''=>e = .returned (.int .i64 (m.come j k g))∧∃ p:Regrown,w''=grow (redrawn wr p.d) p.os) :=
              hide fun d os=>Calls.regrown_of (rcome_any _ L m N (Rr.regrown d os) o j k g)
            have HR:=hide (show rrowTo m g j (k+1)=rrowTo m g j k+(m.pc j k g+m.come j k g) from rfl)
            generalize (j * m.H+k) * m.G+g=K at *
            generalize m.T * m.G * m.H=TT at *
            clear o R Rr cm cf
            generalize m.pc j k g=x at *
            generalize m.come j k g=y at *
            go_wp2
            refine wp_region_quiet_below mixed (by kernel_rfl) ?_
            repeat (quiet_step (first | exact cQ.out _ _ | exact cE.out _ _))
            refine wpQuiet_nil ?_
            intro _ hw'
            obtain ⟨⟨dq,osq⟩,hw''⟩:=hw'
            subst hw''
            go_wp2
            have w1:IntKind.i64.wrap (n+rtotTo m g j+rrowTo m g j k+x)=n+rtotTo m g j+rrowTo m g j k+x:=IntWalk.i64_in _ (by omega)
            have w2:IntKind.i64.wrap (n+rtotTo m g j+rrowTo m g j k+x+y)=n+rtotTo m g j+rrowTo m g j k+x+y:=IntWalk.i64_in _ (by omega)
            refine ⟨⟨k+1,by omega,by go_num,?_,hkp.trans (.of_below (below_regrown wr dq osq))⟩,by simp [intOf];omega⟩
            rw [w1,w2,HR.out]
            exact congrArg (Value.int .i64) (by omega)
          · have e1:k=m.H:=by omega
            subst e1
            go_wp2
            refine ⟨⟨j+1,by omega,by go_num,?_,hkp⟩,by simp [intOf];omega⟩
            rw [rtotTo]
            exact congrArg (Value.int .i64) (by omega)
      · have e1:j=m.T:=by omega
        subst e1
        by_cases hS:1000000<n+rtotTo m g m.T
        · go_wp2
          go_ret
          have e:rbringE m t h g n=8:=by rw [HE.out,if_pos hS]
          exact ⟨ret_int e.symm,by rw [rbringM,e];exact .same R hkp⟩
        · go_wp2_with fail
          refine (rlot_any _ L m N Rr o t h g ht hh hg).mono ?_
          rintro e w' ⟨rfl,nd',rfl⟩
          have c4:=Rr.c.cP.cell
          obtain ⟨cm,cf⟩:=Rr.pc t h g ht hh hg
          obtain ⟨bm0,bm1⟩:=o.pc t h g ht hh hg
          have hlt:=lot_lt ht hh hg
          generalize hk:(t * m.H+h) * m.G+g=k at *
          have HK:=hide hk
          clear hk
          generalize m.T * m.G * m.H=TT at *
          go_wp2
          go_region
          all_goals go_wp2
          all_goals go_ret
          all_goals have e:rbringE m t h g n=0:=by rw [HE.out,if_neg (by omega)]
          all_goals exact ⟨ret_int e.symm,by rw [rbringM,e];exact RPost.pcs R (hkp.drewN _) t h g ht hh hg k HK.out _⟩
  · have e:Hid (rbringE m t h g n=rlotsE m t h g n):=hide (by unfold rbringE;rw [if_pos hl])
    have HL:=hide (lots_any w L m t h g n R)
    have hM:Hid (rbringM m t h g n=m):=hide (by unfold rbringM;rw [e.out,if_neg hl])
    generalize rlotsE m t h g n=E at *
    have hne:(E != 0)=true:=by simpa using hl
    clear hl
    go_enter Tryz.func35,Tryz.ntmps35
    go_wp2_with fail
    refine HL.out.mono ?_
    rintro e w' ⟨rfl,rfl⟩
    go_wp2
    go_ret
    exact ⟨ret_int e.out.symm,by rw [hM.out];exact .same R (Kep.refl _ _)⟩
end

section
open Go.RowKit Go.Sort

theorem infoRload:(Tryz.prog.info? 141).map (fun i=>(i.zero,i.size,i.bytes))=some (some (.agg #[.int .i64 0,.int .i64 0,.int .i64 0,.int .i64 0,.int .i64 0]),5,40):=by kernel_rfl

theorem due_lt {tm:Int} {d f:Nat} (h:(d:Int) - f<0) (b0:0≤tm) (b1:tm≤1000000000) (bf:f≤4):IntKind.i64.wrap (tm+IntKind.i64.wrap (2 * -((d:Int) - f)))=tm+2 * far f d:=by
  rw [IntWalk.i64_in (2 * -((d:Int) - f)) (by omega),IntWalk.i64_in _ (by omega),far,if_pos (by omega)]
  omega
theorem due_ge {tm:Int} {d f:Nat} (h:0≤(d:Int) - f) (b0:0≤tm) (b1:tm≤1000000000) (bd:d≤4):IntKind.i64.wrap (tm+IntKind.i64.wrap (2 * ((d:Int) - f)))=tm+2 * far f d:=by
  rw [IntWalk.i64_in (2 * ((d:Int) - f)) (by omega),IntWalk.i64_in _ (by omega),far,if_neg (by omega)]

theorem inB_true {n:Nat} {t:Int} (h:inB n t=true):okI n t:=of_decide_eq_true h

def rshipE (m:Rm) (t f o g n:Int):Int :=
  if ¬ okI m.T t then 2 else if ¬ okI m.H o∨f=o then 3 else if rlotsE m t f g n≠0 then rlotsE m t f g n else if m.pc t.toNat f.toNat g.toNat - m.kept t f g<n then 7 else if 20≤m.ld.length then 8 else 0
def rshipM (m:Rm) (t f o g n:Int):Rm :=
  if rshipE m t f o g n=0 then { m.setPc t.toNat f.toNat g.toNat (m.pc t.toNat f.toNat g.toNat - n) with ld:=m.ld ++ [⟨t,o,g,n,m.tm+2 * far f o⟩] } else m
def rshipGood (m:Rm) (t f o g n:Int):Prop:=okI m.T t∧okI m.H o∧f≠o∧rlotsE m t f g n=0
theorem rshipE_good {m:Rm} {t f o g n:Int} (h:rshipGood m t f o g n):rshipE m t f o g n=if m.pc t.toNat f.toNat g.toNat - m.kept t f g<n then 7 else if 20≤m.ld.length then 8 else 0:=by
  obtain ⟨h1,h2,h3,h4⟩:=h
  simp [rshipE,h1,h2,h3,h4]

theorem rship_end {w W2 w0 w1:World} {L:RL} {m:Rm} {gg cap:Nat} (K2:Kep L.S w W2) (R2:RRep W2 L m) (T1:1≤m.T) (H1:1≤m.H) (G1:1≤m.G) (k0:Kep non W2 w0) (hgrow:w0.grownBy w1 L.lv.ownBlock) (l:Lo)
    (hown1:w1.ownsRow 0 141 5 (.slice (some ⟨gg,0,none⟩) (m.ld.length+1) cap) (m.ld.length+1) (loCells m.ld ++ l.cells)) (hat:L.lv.ownBlock=some gg∨gg=w0.heap.size) :
    RPost w L { m with ld:=m.ld ++ [l] } (w1.setCell ⟨L.c,6,none⟩ (.slice (some ⟨gg,0,none⟩) (m.ld.length+1) cap)):=by
  have lt:=R2.lt T1 G1 H1
  have k1:Kep (fun b=>L.lv.ownBlock=some b) W2 w1:=(k0.none).grown hgrow (fun k hk=>.inl hk)
  have z0:=k0.size
  have z2:=K2.size
  refine ⟨(K2.trans' k1 (fun i hi=>.inl ⟨7,hi⟩)).setCell (p:=⟨L.c,6,none⟩) (.inl ⟨0,rfl⟩) _,{ L with lv:=.slice (some ⟨gg,0,none⟩) (m.ld.length+1) cap },rfl,?_,?_⟩
  · rintro b ⟨i,hi⟩
    by_cases e:i=7
    · subst e
      have hb:gg=b:=by simpa [RL.F,Value.ownBlock] using hi
      subst hb
      rcases hat with h | h
      · exact .inl ⟨7,h⟩
      · right;omega
    · refine .inl ⟨i,?_⟩
      rcases i with _ | _ | _ | _ | _ | _ | _ | _ | _ | i
      all_goals first | exact hi | exact absurd rfl e
  · refine R2.setLd k1 (m.ld ++ [l]) _ (by simpa [loCells_append,loCells] using hown1) (fun i b hi hb=>?_)
    simp only [Value.ownBlock,ne_eq,Option.some.injEq]
    rintro rfl
    rcases hat with h | h
    · exact hi (R2.inj i 7 _ hb h)
    · have:=lt _ ⟨i,hb⟩
      omega

set_option maxHeartbeats 400000 in
theorem refShip_bad (w:World) (L:RL) (m:Rm) (t f o g n:Int) (R:RRep w L m) (hb:¬ rshipGood m t f o g n) :
    Calls Tryz.prog 39 #[.pointer (some ⟨L.c,0,none⟩),.int .i64 t,.int .i64 f,.int .i64 o,.int .i64 g,.int .i64 n] w fun e w'=>e = .returned (.int .i64 (rshipE m t f o g n))∧RPost w L (rshipM m t f o g n) w':=by
  have c0:=R.c.cT.cell
  have c2:=R.c.cR.cell
  have hne:Hid (rshipE m t f o g n≠0∧rshipE m t f o g n=if ¬ okI m.T t then 2 else if ¬ okI m.H o∨f=o then 3 else rlotsE m t f g n):=hide (by
    unfold rshipGood at hb
    unfold rshipE
    by_cases h1:okI m.T t <;> by_cases h2:okI m.H o <;> by_cases h3:f=o <;> by_cases h4:rlotsE m t f g n=0 <;> simp_all)
  have hM:Hid (rshipM m t f o g n=m):=hide (by simp [rshipM,hne.out.1])
  have HL:=hide (lots_any w L m t f g n R)
  have hE:Hid (rlotsE m t f g n=0→okI m.T t→okI m.H o→f=o):=hide (fun h1 h2 h3=>by
    by_cases h:f=o
    · exact h
    · exact absurd ⟨h2,h3,h,h1⟩ hb)
  generalize rlotsE m t f g n=E at *
  clear hb
  go_enter Tryz.func39,Tryz.ntmps39
  go_wp2_with (first | (go_at_call 66;refine (trader_b _ _ _ _ c0).mono ?_;rintro e w' ⟨rfl,rfl⟩) | (go_at_call 91;refine (hall_b _ _ _ _ _ _ c2).mono ?_;rintro e w' ⟨rfl,rfl⟩) | (go_at_call 86;refine HL.out.mono ?_;rintro e w' ⟨rfl,rfl⟩))
  case' _=>skip
  all_goals first
    | exact absurd (hE.out (by simpa using ‹(E != 0)=false›) (inB_true (by simpa using ‹(!inB m.T t)=false›)) (inB_true ‹inB m.H o=true›)) (by simpa using ‹(f == o)=false›)
    | (go_ret;refine ⟨ret_int ?_,by rw [hM.out];exact .same R (Kep.refl _ _)⟩;rw [hne.out.2];clear c0 c2 R;simp_all [inB];try (intros;omega))

set_option maxHeartbeats 1000000 in
theorem refShip_good (w:World) (L:RL) (m:Rm) (N:Int) (t f d g:Nat) (n:Int) (R:RRep w L m) (ok:m.Ok N) (hb:rshipGood m t f d g n) :
    Calls Tryz.prog 39 #[.pointer (some ⟨L.c,0,none⟩),.int .i64 t,.int .i64 f,.int .i64 d,.int .i64 g,.int .i64 n] w fun e w'=>e = .returned (.int .i64 (rshipE m t f d g n))∧RPost w L (rshipM m t f d g n) w':=by
  have HE:=hide (rshipE_good hb)
  simp only [Int.toNat_natCast] at HE
  have c0:=R.c.cT.cell
  have c2:=R.c.cR.cell
  have HL:=hide (lots_any w L m t f g n R)
  obtain ⟨⟨_,t1⟩,⟨_,d1⟩,hne,hl⟩:=hb
  rw [hl] at HL
  obtain ⟨_,⟨_,f1⟩,⟨_,g1⟩,⟨n0,n1⟩⟩:=rlotsE_zero hl
  clear hl
  have ht:t<m.T:=by omega
  have hf:f<m.H:=by omega
  have hd:d<m.H:=by omega
  have hg:g<m.G:=by omega
  have bT:=ok.T8
  have bG:=ok.G4
  have bH:=ok.H4
  have k0:=ok.K0
  have k1:=ok.K1
  have i1:inB m.T t=true:=decide_eq_true ⟨by omega,t1⟩
  have i2:inB m.H d=true:=decide_eq_true ⟨by omega,d1⟩
  have i3:((f:Int) == (d:Int))=false:=beq_eq_false_iff_ne.2 hne
  have HSp:=hide (rspare_any w L m N R ok t f g ht hf hg)
  by_cases hS:m.pc t f g - m.kept t f g<n
  · have e:Hid (rshipE m t f d g n=7):=hide (by rw [HE.out];exact if_pos hS)
    go_enter Tryz.func39,Tryz.ntmps39
    go_wp2_with (first | (go_at_call 66;refine (trader_b _ _ _ _ c0).mono ?_;rw [i1];rintro e w' ⟨rfl,rfl⟩) | (go_at_call 91;refine (hall_b _ _ _ _ _ _ c2).mono ?_;rw [i2];rintro e w' ⟨rfl,rfl⟩) | (go_at_call 86;refine HL.out.mono ?_;rintro e w' ⟨rfl,rfl⟩))
    refine HSp.out.mono ?_
    rintro e w1 ⟨rfl,hB⟩
    go_wp2
    go_ret
    exact ⟨ret_int e.out.symm,by rw [rshipM,e.out];exact .same R (Kep.of_below hB)⟩
  · obtain ⟨la,lc,hlv⟩:=row_form R.ld
    by_cases h20:20≤m.ld.length
    · have e:Hid (rshipE m t f d g n=8):=hide (by rw [HE.out,if_neg hS,if_pos h20])
      go_enter Tryz.func39,Tryz.ntmps39
      go_wp2_with (first | (go_at_call 66;refine (trader_b _ _ _ _ c0).mono ?_;rw [i1];rintro e w' ⟨rfl,rfl⟩) | (go_at_call 91;refine (hall_b _ _ _ _ _ _ c2).mono ?_;rw [i2];rintro e w' ⟨rfl,rfl⟩) | (go_at_call 86;refine HL.out.mono ?_;rintro e w' ⟨rfl,rfl⟩))
      refine HSp.out.mono ?_
      rintro e w1 ⟨rfl,hB⟩
      have c6:=(R.bel hB).c.cL.cell
      rw [hlv] at c6
      go_wp2
      go_ret
      exact ⟨ret_int e.out.symm,by rw [rshipM,e.out];exact .same R (Kep.of_below hB)⟩
    · have e:Hid (rshipE m t f d g n=0):=hide (by rw [HE.out,if_neg hS,if_neg h20])
      go_enter Tryz.func39,Tryz.ntmps39
      go_wp2_with (first | (go_at_call 66;refine (trader_b _ _ _ _ c0).mono ?_;rw [i1];rintro e w' ⟨rfl,rfl⟩) | (go_at_call 91;refine (hall_b _ _ _ _ _ _ c2).mono ?_;rw [i2];rintro e w' ⟨rfl,rfl⟩) | (go_at_call 86;refine HL.out.mono ?_;rintro e w' ⟨rfl,rfl⟩))
      refine HSp.out.mono ?_
      rintro e w1 ⟨rfl,hB⟩
      have R1:=R.bel hB
      have HB:=hide hB
      have c6:=R1.c.cL.cell
      rw [hlv] at c6
      clear hB
      go_wp2_with fail
      refine (rlot_any w1 L m N R1 ok t f g ht hf hg).mono ?_
      rintro e w2 ⟨rfl,nd',rfl⟩
      have c4:=R1.c.cP.cell
      obtain ⟨cm,cf⟩:=R1.pc t f g ht hf hg
      obtain ⟨bm0,bm1⟩:=ok.pc t f g ht hf hg
      have hlt:=lot_lt ht hf hg
      generalize hk:(t * m.H+f) * m.G+g=k at *
      have HK:=hide hk
      clear hk
      generalize m.T * m.G * m.H=TT at *
      go_wp2
      go_region
      all_goals go_wp2
      all_goals
        obtain ⟨W2,hW2⟩ : ∃ W2,W2=(w1.drewN (nd'+1)).setCell ⟨L.pb,k,none⟩ (.int .i64 (m.pc t f g - n)):=⟨_,rfl⟩
        rw [← hW2]
        have K2:Kep L.S w' W2:=by rw [hW2];exact ((Kep.of_below HB.out).drewN _).setCell (p:=⟨L.pb,k,none⟩) (.inl ⟨2,rfl⟩) _
        have R2:RRep W2 L (m.setPc t f g (m.pc t f g - n)):=by rw [hW2,← HK.out];exact (R1.later ((Kep.refl _ _).drewN _)).setPc t f g ht hf hg _
        have HR:=hide R2
        obtain ⟨b6,f6⟩:=R2.c.cL
        rw [hlv] at b6
        have b12:W2.cell? ⟨L.c,12,none⟩=some (.int .i64 m.tm):=R2.c.cTm.cell
        have hown:W2.ownsRow 0 141 5 L.lv m.ld.length (loCells m.ld):=R2.ld
        have q4:L.lv.ownBlock≠some L.c:=fun q=>by have:=R2.inj 7 0 L.c q rfl;omega
        rw [hlv] at hown q4
        have fa:∀ o,(W2.alloc o).frozen? ⟨L.c,6,none⟩=false:=fun o=>(R2.c.cL.kep ((Kep.refl non _).alloc o) (fun q=>q)).free
        have ca:∀ o,(W2.alloc o).cell? ⟨L.c,6,none⟩=some (.slice la m.ld.length lc):=fun o=>hlv ▸ (R2.c.cL.kep ((Kep.refl non _).alloc o) (fun q=>q)).cell
        clear hW2 c0 c2 c4 cm cf c6 R1
        obtain ⟨i0,hi0,hz0,hz1,hz2⟩:=info_parts infoRload
        have lc6:L.c<W2.heap.size:=World.block_lt_of_cell? W2 _ b6
        obtain ⟨tm0,tm1⟩:=ok.tm
        clear R2
        go_region_law
          ((refine step_append_lies _ (by rfl) _ _ _ (by rfl) 0 141 i0 _ 5 40 Tryz.underlying99 hi0 hz0 hz1 hz2 rfl (by omega) (.slice la m.ld.length lc) m.ld.length (loCells m.ld) (by rfl) ((hown.alloc _).drew)
              ⟨W2.heap.size,0,none⟩ 1 1 _ (by rfl) (by rfl) (World.news_of_block (cs:=#[_,_,_,_,_]) (t:=141) (fr:=(0,0)) (heap_alloc_new W2 _)) (by simp [Value.oneCell'])
              (by omega) (by simp [maxLen];omega) (by omega) (by simp) (W2.heap.size+1) (by simp) ?_;intro gg cap w1 hown1 hgrow hat hlt;have z6:w1.cell? ⟨L.c,6,none⟩=some (.slice la m.ld.length lc):=(by rw [hgrow.cell_far _ (by simp;omega) (Ne.symm q4)];exact ca _);have z7:w1.frozen? ⟨L.c,6,none⟩=false:=(by rw [hgrow.frozen_far _ (by simp;omega) (Ne.symm q4)];exact fa _)))
        all_goals go_wp2
        all_goals go_ret
        all_goals
          refine ⟨ret_int e.out.symm,?_⟩
          rw [rshipM,e.out]
          refine rship_end (m:=m.setPc t f g (m.pc t f g - n)) K2 HR.out ok.T1 ok.H1 ok.G1 (((Kep.refl non _).alloc _).drew) (hlv ▸ hgrow) ⟨t,d,g,n,m.tm+2 * far f d⟩ ?_ (hat.imp (fun h=>by rw [hlv];exact h) (fun h=>by simpa using h))
          first
            | (rw [due_lt ‹(d:Int) - f<0› tm0 tm1 (by omega)] at hown1;exact hown1)
            | (rw [due_ge ‹0≤(d:Int) - f› tm0 tm1 (by omega)] at hown1;exact hown1)

theorem refShip_any (w:World) (L:RL) (m:Rm) (N t f o g n:Int) (R:RRep w L m) (ok:m.Ok N) :
    Calls Tryz.prog 39 #[.pointer (some ⟨L.c,0,none⟩),.int .i64 t,.int .i64 f,.int .i64 o,.int .i64 g,.int .i64 n] w fun e w'=>e = .returned (.int .i64 (rshipE m t f o g n))∧RPost w L (rshipM m t f o g n) w':=by
  by_cases hb:rshipGood m t f o g n
  · have hb':=hb
    obtain ⟨⟨t0,_⟩,⟨o0,_⟩,_,hl⟩:=hb'
    obtain ⟨_,⟨f0,_⟩,⟨g0,_⟩,_⟩:=rlotsE_zero hl
    obtain ⟨t,rfl⟩:=Int.eq_ofNat_of_zero_le t0
    obtain ⟨f,rfl⟩:=Int.eq_ofNat_of_zero_le f0
    obtain ⟨g,rfl⟩:=Int.eq_ofNat_of_zero_le g0
    obtain ⟨o,rfl⟩:=Int.eq_ofNat_of_zero_le o0
    exact refShip_good w L m N t f o g n R ok hb
  · exact refShip_bad w L m t f o g n R hb
end

section
open Go.RowKit Go.Sort

def rlandM (m:Rm) (now:Int):List Lo→Rm
  | []=>m
  | l :: r=>if now<l.d then rlandM m now r else rlandM (m.setPc l.t.toNat l.h.toNat l.g.toNat (m.pc l.t.toNat l.h.toNat l.g.toNat+l.n)) now r
def rtickE (m:Rm):Int:=if 1000000000≤m.tm then 8 else 0
def rtickM (m:Rm):Rm:=if rtickE m=0 then { rlandM m (m.tm+1) m.ld with ld:=stay (m.tm+1) m.ld,tm:=m.tm+1 } else m

theorem rlandM_append (m:Rm) (now:Int) (a b:List Lo):rlandM m now (a ++ b)=rlandM (rlandM m now a) now b:=by
  induction a generalizing m with
  | nil=>rfl
  | cons x a ih=>simp only [List.cons_append,rlandM];split <;> exact ih _

theorem rlandM_pc (m:Rm) (now:Int) (a:List Lo):∃ f,rlandM m now a={ m with pc:=f }:=by
  induction a generalizing m with
  | nil=>exact ⟨m.pc,rfl⟩
  | cons x a ih =>
    simp only [rlandM]
    split
    · exact ih m
    · obtain ⟨f,hf⟩:=ih (m.setPc x.t.toNat x.h.toNat x.g.toNat (m.pc x.t.toNat x.h.toNat x.g.toNat+x.n))
      exact ⟨f,hf⟩

theorem rlandM_snoc (m:Rm) (now:Int) (a:List Lo) (k:Nat) (hk:k<a.length):rlandM m now (a.take (k+1))=if now<a[k].d then rlandM m now (a.take k) else
    (rlandM m now (a.take k)).setPc a[k].t.toNat a[k].h.toNat a[k].g.toNat ((rlandM m now (a.take k)).pc a[k].t.toNat a[k].h.toNat a[k].g.toNat+a[k].n):=by
  rw [List.take_succ_eq_append_getElem hk,rlandM_append]
  by_cases h:now<a[k].d <;> simp [rlandM,h]

theorem rlandM_bd (m:Rm) (N now:Int) (a:List Lo) (hb:∀ l,l∈a→0≤l.n∧l.n≤10000) (hp:∀ t h g,t<m.T→h<m.H→g<m.G→-N≤m.pc t h g∧m.pc t h g≤N) :
    ∀ t h g,t<m.T→h<m.H→g<m.G→-N≤(rlandM m now a).pc t h g∧(rlandM m now a).pc t h g≤N+10000 * a.length:=by
  suffices H:∀ B:Int,(∀ t h g,t<m.T→h<m.H→g<m.G→-N≤m.pc t h g∧m.pc t h g≤B)→∀ t h g,t<m.T→h<m.H→g<m.G→-N≤(rlandM m now a).pc t h g∧(rlandM m now a).pc t h g≤B+10000 * a.length from H N hp
  clear hp
  intro B hp
  induction a generalizing m B with
  | nil=>intro t h g ht hh hg;have:=hp t h g ht hh hg;simp [rlandM];omega
  | cons x a ih =>
    intro t h g ht hh hg
    have hx:=hb x (by simp)
    simp only [rlandM]
    by_cases hd:now<x.d
    · have:=ih m (fun l hl=>hb l (by simp [hl])) B hp t h g ht hh hg
      simp only [hd,if_true,List.length_cons]
      omega
    · have:=ih (m.setPc x.t.toNat x.h.toNat x.g.toNat (m.pc x.t.toNat x.h.toNat x.g.toNat+x.n)) (fun l hl=>hb l (by simp [hl])) (B+10000) (fun t' h' g' ht' hh' hg'=>by
        simp only [Rm.setPc] at ht' hh' hg' ⊢
        have h1:=hp t' h' g' ht' hh' hg'
        split
        · rename_i he
          obtain ⟨rfl,rfl,rfl⟩:=he
          omega
        · omega) t h g ht hh hg
      simp only [hd,if_false,List.length_cons]
      omega

theorem rlandM_tm (m:Rm) (x now:Int) (a:List Lo):rlandM { m with tm:=x } now a={ rlandM m now a with tm:=x }:=by
  induction a generalizing m with
  | nil=>rfl
  | cons l a ih =>
    simp only [rlandM]
    by_cases h:now<l.d
    · simp only [h,if_true,ih]
    · simp only [h,if_false]
      exact ih (m.setPc l.t.toNat l.h.toNat l.g.toNat (m.pc l.t.toNat l.h.toNat l.g.toNat+l.n))

theorem ownsRow_zero {w:World} {b:Nat} {e:TypeId} {size:Nat} {v:Value} {n:Nat} {xs:List Value} (h:w.ownsRow b e size v n xs):w.ownsRow 0 e size v n xs:=by
  refine ⟨h.1,?_⟩
  rcases h.2 with hn | ⟨g,cap,cur,rfl,hb,rest⟩
  · exact .inl hn
  · exact .inr ⟨g,cap,cur,rfl,Nat.zero_le _,rest⟩

theorem Rm.Ok.pcs {r:Rm} {K:Int} (o:r.Ok K) (f:Nat→Nat→Nat→Int) (tm:Int) (htm:0≤tm∧tm≤1000000000) (B:Int) (hB:K+B≤1000) (hB0:0≤B) (hf:∀ t h g,t<r.T→h<r.H→g<r.G→-(1000000000000+(K+B) * 10000)≤f t h g∧f t h g≤1000000000000+(K+B) * 10000):({ r with pc:=f,tm:=tm }:Rm).Ok (K+B) :=
  ⟨by have:=o.K0;omega,hB,o.T1,o.T8,o.G1,o.G4,o.H1,o.H4,o.rt,fun t ht=>by have:=o.mo t ht;simp only [];omega,hf,o.l20,o.ld,o.w60,o.wt,fun h g hh hg=>by have:=o.pi h g hh hg;simp only [];omega,fun h g hh hg=>by have:=o.am h g hh hg;simp only [];omega,o.nx,by have:=o.ho;simp only [];omega,htm⟩

set_option maxRecDepth 100000 in
set_option maxHeartbeats 1000000 in
theorem refTick_any (w:World) (L:RL) (m:Rm) (N:Int) (R:RRep w L m) (ok:m.Ok N) (hN:N≤900) :
    Calls Tryz.prog 41 #[.pointer (some ⟨L.c,0,none⟩)] w fun e w'=>e = .returned (.int .i64 (rtickE m))∧RPost w L (rtickM m) w':=by
  obtain ⟨c12,f12⟩:=R.c.cTm
  obtain ⟨tm0,tm1⟩:=ok.tm
  have k0:=ok.K0
  by_cases hT:1000000000≤m.tm
  · have e:Hid (rtickE m=8):=hide (by simp [rtickE,hT])
    go_enter Tryz.func41,Tryz.ntmps41
    go_wp2
    go_ret
    exact ⟨ret_int e.out.symm,by rw [rtickM,e.out];exact .same R (Kep.refl _ _)⟩
  · have e:Hid (rtickE m=0):=hide (by simp [rtickE,hT])
    have R0:=R.setTm (m.tm+1)
    have K0:Kep L.S w (w.setCell ⟨L.c,12,none⟩ (.int .i64 (m.tm+1))):=(Kep.refl L.S _).setCell (p:=⟨L.c,12,none⟩) (.inl ⟨0,rfl⟩) _
    have LT:=hide (R.lt ok.T1 ok.G1 ok.H1)
    go_enter Tryz.func41,Tryz.ntmps41
    go_wp2
    generalize w.setCell ⟨L.c,12,none⟩ (.int .i64 (m.tm+1))=W0 at *
    clear c12 f12
    go_loopw [3,4] (fun l i wr=>∃ k:Nat,k≤m.ld.length∧i = .int .i64 k∧Kep L.S w wr∧RRep wr L (rlandM { m with tm:=m.tm+1 } (m.tm+1) (m.ld.take k))∧wr.ownsRow w.heap.size 141 5 l (stay (m.tm+1) (m.ld.take k)).length (loCells (stay (m.tm+1) (m.ld.take k)))) (fun _ i _=>m.ld.length - (intOf i).toNat)
    case atStart=>exact ⟨0,Nat.zero_le _,rfl,K0,R0,by simpa [stay,loCells] using World.ownsRow_nil _ _ _ _⟩
    case round =>
      obtain ⟨k,hk,rfl,hkp,Rr,hown⟩:=hrel
      obtain ⟨la,lc,hlv⟩:=row_form R.ld
      obtain ⟨fp,hfp⟩:=rlandM_pc { m with tm:=m.tm+1 } (m.tm+1) (m.ld.take k)
      by_cases hlt:k<m.ld.length
      · have HS:=hide (stay_snoc (m.tm+1) m.ld k hlt)
        have HL:=hide (rlandM_snoc { m with tm:=m.tm+1 } (m.tm+1) m.ld k hlt)
        have HP:=hide (rlandM_bd { m with tm:=m.tm+1 } (1000000000000+N * 10000) (m.tm+1) (m.ld.take k) (fun l hl=>by have:=(ok.ld l (List.mem_of_mem_take hl)).2.2.2.1;omega) ok.pc)
        have lk:=ok.ld m.ld[k] (by simp)
        have l20:=ok.l20
        have stl:=stay_length (m.tm+1) (m.ld.take k)
        have tkl:(m.ld.take k).length=k:=by simp;omega
        rw [tkl] at stl HP
        rw [hfp] at Rr HL HP
        simp only [] at HP
        generalize stay (m.tm+1) (m.ld.take k)=ss at *
        have rl:=Rr.ld
        have b12:=Rr.c.cTm.cell
        have b6:=Rr.c.cL.cell
        simp only [] at rl b12 b6
        rw [hlv] at rl b6
        obtain ⟨lb,cap',hv,q0⟩:=load_cells rl k hlt
        simp only [Value.slice.injEq,true_and] at hv
        obtain ⟨rfl,rfl⟩:=hv
        have q1:=q0 1 _ rfl
        have q2:=q0 2 _ rfl
        have q3:=q0 3 _ rfl
        have q4:=q0 4 _ rfl
        replace q0:wr.cell? ⟨lb,k * 5,none⟩=some (.int .i64 m.ld[k].t):=q0 0 _ rfl
        generalize m.ld[k]=l at *
        have lc6:L.c<wr.heap.size:=World.block_lt_of_cell? wr _ b6
        clear rl tkl K0 R0 hfp
        have ca:∀ o,(wr.alloc o).cell? ⟨L.c,12,none⟩=some (.int .i64 (m.tm+1)):=fun o=>cell_later (((Below.refl _ wr)).alloc (Nat.le_refl _) o) b12
        obtain ⟨⟨l1,l1'⟩,⟨l2,l2'⟩,⟨l3,l3'⟩,⟨l4,l4'⟩,⟨l5,l5'⟩⟩:=lk
        have HV:=hide hlv
        clear hlv
        by_cases hd:m.tm+1<l.d
        · have HR:=hide Rr
          have HO:=hide ok
          clear Rr ok R
          go_wp2
          go_quiet (fail)
          obtain ⟨i0,hi0,hz0,hz1,hz2⟩:=info_parts infoRload
          have lw:=hkp.size
          go_wp2_with (at_builtin;refine wpList_append_lies _ rfl _ _ _ rfl w.heap.size 141 i0 _ 5 40 Tryz.underlying99 hi0 hz0 hz1 hz2 rfl (by omega) _ ss.length (loCells ss) rfl (by exact (hown.alloc _).alloc _) ⟨wr.heap.size+1,0,none⟩ 1 1 l.cells rfl rfl ?hnews ?h1 (by omega) ?h63 (by omega) ?hbase (wr.heap.size+2) (by simp) ?_)
          case hnews =>
            refine World.news_of_block (cs:=#[.int .i64 l.t,.int .i64 l.h,.int .i64 l.g,.int .i64 l.n,.int .i64 l.d]) (t:=141) (fr:=(0,0)) ?_
            have:=heap_alloc_new ((wr.alloc (Obj.cells #[.int .i64 l.t,.int .i64 l.h,.int .i64 l.g,.int .i64 l.n,.int .i64 l.d] 141)).drewN nq) (Obj.cells #[.int .i64 l.t,.int .i64 l.h,.int .i64 l.g,.int .i64 l.n,.int .i64 l.d] 141)
            simpa using this
          case h1=>simp [Lo.cells,Value.oneCell']
          case h63=>simp only [maxLen];omega
          case hbase=>simp;omega
          intro gg cap w1 hown1 hgrow hat hlt1
          go_wp2
          have fresh:∀ b,u3.ownBlock=some b→w.heap.size≤b:=fun b hb=>(hown.lt b hb).1
          have k1:Kep (fun b=>u3.ownBlock=some b) wr w1:=((((Kep.refl _ _).alloc _).drewN _).alloc _).grown hgrow (fun b hb=>.inl hb)
          refine ⟨⟨k+1,by omega,by go_num,hkp.trans' k1 (fun b hb=>.inr (fresh b hb)),?_,?_⟩,by simp [intOf];omega⟩
          · rw [HL.out,if_pos hd]
            refine HR.out.keep k1 (fun b hb hb'=>?_)
            have h1:=LT.out b hb
            have h2:=fresh b hb'
            omega
          · rw [HS.out,if_pos hd]
            simpa [loCells_append,loCells] using hown1
        · obtain ⟨lt,lh,lg,ln,ldd⟩:=l
          simp only [] at l1 l1' l2 l2' l3 l3' l4 l4' l5 l5' hd q0 q1 q2 q3 q4
          obtain ⟨a,rfl⟩:=Int.eq_ofNat_of_zero_le l1
          obtain ⟨b,rfl⟩:=Int.eq_ofNat_of_zero_le l2
          obtain ⟨c,rfl⟩:=Int.eq_ofNat_of_zero_le l3
          have ha:a<m.T:=by omega
          have hb:b<m.H:=by omega
          have hc:c<m.G:=by omega
          obtain ⟨bp0,bp1⟩:=HP.out a b c (by omega) (by omega) (by omega)
          have okM:({ m with tm:=m.tm+1,pc:=fp }:Rm).Ok (N+20):=ok.pcs fp (m.tm+1) (by omega) 20 (by omega) (by omega) (fun t h g ht hh hg=>by have:=HP.out t h g ht hh hg;omega)
          have HOK:=hide okM
          have HRr:=hide Rr
          have kk:=lot_lt ha hb hc
          have c4:Own wr ⟨L.c,4,none⟩ (.slice (some ⟨L.pb,0,none⟩) (m.T * m.G * m.H) (m.T * m.G * m.H)):=Rr.c.cP
          have cm:Own wr ⟨L.pb,(a * m.H+b) * m.G+c,none⟩ (.int .i64 (fp a b c)):=Rr.pc a b c ha hb hc
          have HLot:=hide (fun W (RW:RRep W L { m with tm:=m.tm+1,pc:=fp })=>rlot_any W L _ _ RW okM a b c ha hb hc)
          simp only [] at HLot
          generalize hK:(a * m.H+b) * m.G+c=K at *
          have HK:=hide hK
          generalize m.T * m.G * m.H=TT at *
          have c4a:∀ o,(wr.alloc o).cell? ⟨L.c,4,none⟩=some (.slice (some ⟨L.pb,0,none⟩) TT TT):=fun o=>(c4.kep ((Kep.refl non _).alloc o) (fun q=>q)).cell
          have cma:∀ o,(wr.alloc o).cell? ⟨L.pb,K,none⟩=some (.int .i64 (fp a b c)):=fun o=>(cm.kep ((Kep.refl non _).alloc o) (fun q=>q)).cell
          have cfa:∀ o,(wr.alloc o).frozen? ⟨L.pb,K,none⟩=false:=fun o=>(cm.kep ((Kep.refl non _).alloc o) (fun q=>q)).free
          have lpbw:L.pb<w.heap.size:=LT.out _ ⟨2,rfl⟩
          have lpb:L.pb<wr.heap.size:=cm.lt
          clear hK okM Rr c4 cm ok R
          go_wp2
          go_quiet (fail)
          go_wp2_with fail
          refine (HLot.out _ (HRr.out.later (((Kep.refl _ _).alloc _).drewN _))).mono ?_
          rintro e w' ⟨rfl,nd',rfl⟩
          go_wp2
          go_region
          all_goals go_wp2
          refine ⟨⟨k+1,by omega,by go_num,?_,?_,?_⟩,by simp [intOf];omega⟩
          · exact ((hkp.alloc _).drewN _).setCell (p:=⟨L.pb,K,none⟩) (.inl ⟨2,rfl⟩) _
          · rw [HL.out,if_neg (Int.not_lt.2 hd),← HK.out]
            exact (HRr.out.later (((Kep.refl _ _).alloc _).drewN _)).setPc a b c ha hb hc _
          · rw [HS.out,if_neg (Int.not_lt.2 hd)]
            simp only [List.append_nil]
            refine ownsRow_kep (by exact hown.alloc _) ((Kep.refl (fun b=>b=L.pb) _).setCell (p:=⟨L.pb,K,none⟩) (.inl rfl) _) (fun b hb h=>?_)
            have h1:w.heap.size≤b:=(hown.lt _ hb).1
            have h2:=lpbw
            omega
      · have e1:k=m.ld.length:=by omega
        subst e1
        have b6:=Rr.c.cL
        rw [hlv] at b6
        obtain ⟨b6,f6⟩:=b6
        have HT:=hide (rlandM_tm m (m.tm+1) (m.tm+1) m.ld)
        rw [List.take_of_length_le (Nat.le_refl _)] at *
        clear hfp
        have HRr:=hide Rr
        have HV:=hide hlv
        clear Rr R0 K0 hlv
        obtain ⟨ua,uc,rfl⟩:=row_form hown
        go_wp2
        go_ret
        refine ⟨ret_int e.out.symm,hkp.setCell (p:=⟨L.c,6,none⟩) (.inl ⟨0,rfl⟩) _,{ L with lv:=.slice ua (stay (m.tm+1) m.ld).length uc },rfl,?_,?_⟩
        · rintro b ⟨i,hi⟩
          by_cases e7:i=7
          · subst e7
            exact .inr (hown.lt b hi).1
          · refine .inl ⟨i,?_⟩
            rcases i with _ | _ | _ | _ | _ | _ | _ | _ | _ | i
            all_goals first | exact hi | exact absurd rfl e7
        · have:=HRr.out.setLd (Kep.refl _ wr) (stay (m.tm+1) m.ld) _ (ownsRow_zero hown) (fun i b hi hb h=>by
            have h1:=LT.out b ⟨i,hb⟩
            have h2:=(hown.lt b h).1
            omega)
          rw [HT.out] at this
          rw [rtickM,if_pos e.out]
          exact this
end

end Go.Proofs.YtcfoobhihhndjaaGreat
