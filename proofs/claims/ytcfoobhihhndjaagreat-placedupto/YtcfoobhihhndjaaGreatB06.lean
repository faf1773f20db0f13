
import Derived.Deep.AppendLies
import Derived.Test.YtcfoobhihhndjaaGreatB05
namespace Go.Proofs.YtcfoobhihhndjaaGreat

section
open Go.RowKit Go.Sort

set_option maxHeartbeats 400000 in
theorem progDraw_any (w:World) (L:PL) (m:Mt) (N t x:Int) (R:PRep w L m) (ok:m.Ok N) :
    Calls Tryz.prog 32 #[.pointer (some ⟨L.x,0,none⟩),.int .i64 t,.int .i64 x] w fun e w'=>e = .returned (.int .i64 (drawE m t x))∧PPost w L m (drawM m t x) w':=by
  have c2:=R.cA.cell
  have bT:=ok.T8
  by_cases ht:okI m.T t
  · by_cases hx:okN x 1000000000000
    · obtain ⟨k,rfl⟩:=Int.eq_ofNat_of_zero_le ht.1
      have hk:k<m.T:=by have:=ht.2;omega
      have hx1:=hx.1
      have hx2:=hx.2
      obtain ⟨cm,cf⟩:=R.mo k hk
      obtain ⟨bm0,bm1⟩:=ok.mo k hk
      have i1:=hide (inB_okI ht)
      have i2:=hide (inR_okN hx)
      by_cases hS:m.mo k<x
      · have e:Hid (drawE m k x=6):=hide (by simp [drawE,ht,hx,hS])
        go_enter Tryz.func32,Tryz.ntmps32
        go_wp2_with (first | (go_at_call 63;refine (hasTrader_b _ _ _ _ _ _ bT c2).mono ?_;rw [i1.out];rintro e w' ⟨rfl,rfl⟩) | (go_at_call 78;refine (within_b _ _ _ _).mono ?_;rw [i2.out];rintro e w' ⟨rfl,rfl⟩))
        go_ret
        exact ⟨ret_int e.out.symm,by rw [drawM,e.out];exact .same R (Kep.refl _ _)⟩
      · have e:Hid (drawE m k x=0):=hide (by simp [drawE,ht,hx,hS])
        go_enter Tryz.func32,Tryz.ntmps32
        go_wp2_with (first | (go_at_call 63;refine (hasTrader_b _ _ _ _ _ _ bT c2).mono ?_;rw [i1.out];rintro e w' ⟨rfl,rfl⟩) | (go_at_call 78;refine (within_b _ _ _ _).mono ?_;rw [i2.out];rintro e w' ⟨rfl,rfl⟩))
        go_ret
        exact ⟨ret_int e.out.symm,by rw [drawM,e.out];exact .mo R (Kep.refl _ _) k hk _⟩
    · have e:Hid (drawE m t x=5):=hide (by simp [drawE,ht,hx])
      have i1:=hide (inB_okI ht)
      have i2:=hide (inR_not hx)
      go_enter Tryz.func32,Tryz.ntmps32
      go_wp2_with (first | (go_at_call 63;refine (hasTrader_b _ _ _ _ _ _ bT c2).mono ?_;rw [i1.out];rintro e w' ⟨rfl,rfl⟩) | (go_at_call 78;refine (within_b _ _ _ _).mono ?_;rw [i2.out];rintro e w' ⟨rfl,rfl⟩))
      go_ret
      exact ⟨ret_int e.out.symm,by rw [drawM,e.out];exact .same R (Kep.refl _ _)⟩
  · have e:Hid (drawE m t x=2):=hide (by simp [drawE,ht])
    have i1:=hide (inB_not ht)
    go_enter Tryz.func32,Tryz.ntmps32
    go_wp2_with (first | (go_at_call 63;refine (hasTrader_b _ _ _ _ _ _ bT c2).mono ?_;rw [i1.out];rintro e w' ⟨rfl,rfl⟩))
    go_ret
    exact ⟨ret_int e.out.symm,by rw [drawM,e.out];exact .same R (Kep.refl _ _)⟩

set_option maxHeartbeats 400000 in
theorem check_any (w:World) (L:PL) (m:Mt) (N t h g n:Int) (R:PRep w L m) (ok:m.Ok N) :
    Calls Tryz.prog 84 #[.pointer (some ⟨L.x,0,none⟩),.int .i64 t,.int .i64 h,.int .i64 g,.int .i64 n] w fun e w'=>e = .returned (.int .i64 (lotsE m t h g n))∧w'=w:=by
  have c0:=R.cG.cell
  have c1:=R.cR.cell
  have c2:=R.cA.cell
  have bT:=ok.T8
  have bG:m.G≤8:=by have:=ok.G4;omega
  have bH:m.H≤8:=by have:=ok.H4;omega
  go_enter Tryz.func84,Tryz.ntmps84
  go_wp2_with (first | (go_at_call 63;refine (hasTrader_b _ _ _ _ _ _ bT c2).mono ?_;rintro e w' ⟨rfl,rfl⟩) | (go_at_call 88;refine (hasHall_b _ _ _ _ _ _ bH c1).mono ?_;rintro e w' ⟨rfl,rfl⟩) | (go_at_call 89;refine (hasGood_b _ _ _ _ bG c0).mono ?_;rintro e w' ⟨rfl,rfl⟩) | (go_at_call 78;refine (within_b _ _ _ _).mono ?_;rintro e w' ⟨rfl,rfl⟩))
  all_goals go_ret
  all_goals refine ⟨ret_int ?_,rfl⟩
  all_goals clear c0 c1 c2 R
  all_goals simp_all [lotsE,inB,okN,inR]
  all_goals omega

set_option maxHeartbeats 400000 in
theorem progTake_any (w:World) (L:PL) (m:Mt) (N t h g n:Int) (R:PRep w L m) (ok:m.Ok N) :
    Calls Tryz.prog 36 #[.pointer (some ⟨L.x,0,none⟩),.int .i64 t,.int .i64 h,.int .i64 g,.int .i64 n] w fun e w'=>e = .returned (.int .i64 (takeE m t h g n))∧PPost w L m (takeM m t h g n) w':=by
  have c2:=R.cA.cell
  have bT:=ok.T8
  have bG:=ok.G4
  have bH:=ok.H4
  have HL:=hide (check_any w L m N t h g n R ok)
  by_cases hl:lotsE m t h g n=0
  · obtain ⟨⟨t0,t1⟩,⟨h0,h1⟩,⟨g0,g1⟩,⟨n0,n1⟩⟩:=lotsE_zero hl
    obtain ⟨t,rfl⟩:=Int.eq_ofNat_of_zero_le t0
    obtain ⟨h,rfl⟩:=Int.eq_ofNat_of_zero_le h0
    obtain ⟨g,rfl⟩:=Int.eq_ofNat_of_zero_le g0
    have ht:t<m.T:=by omega
    have hh:h<4:=by omega
    have hg:g<4:=by omega
    obtain ⟨cm,cf⟩:=R.pc t h g ht hh hg
    obtain ⟨bm0,bm1⟩:=ok.pc t h g ht (by omega) (by omega)
    have bN:=ok.bN
    rw [hl] at HL
    by_cases hS:m.pc t h g<n
    · have e:Hid (takeE m t h g n=7):=hide (by simp [takeE,hl,hS])
      clear hl
      go_enter Tryz.func36,Tryz.ntmps36
      go_wp2_with fail
      refine HL.out.mono ?_
      rintro e w' ⟨rfl,rfl⟩
      go_wp2
      go_ret
      exact ⟨ret_int e.out.symm,by rw [takeM,e.out];exact .same R (Kep.refl _ _)⟩
    · have e:Hid (takeE m t h g n=0):=hide (by simp [takeE,hl,hS])
      clear hl
      go_enter Tryz.func36,Tryz.ntmps36
      go_wp2_with fail
      refine HL.out.mono ?_
      rintro e w' ⟨rfl,rfl⟩
      go_wp2
      go_region
      all_goals go_wp2
      all_goals go_ret
      all_goals refine ⟨ret_int e.out.symm,?_⟩
      all_goals rw [takeM,e.out]
      all_goals exact (PPost.pcs R (Kep.refl _ _) t h g ht hh hg _).later ((Kep.refl _ _).drew)
  · have e:Hid (takeE m t h g n=lotsE m t h g n):=hide (by simp [takeE,hl])
    have hM:Hid (takeM m t h g n=m):=hide (by simp [takeM,e.out,hl])
    generalize lotsE m t h g n=E at *
    have hne:(E != 0)=true:=by simpa using hl
    clear hl
    go_enter Tryz.func36,Tryz.ntmps36
    go_wp2_with fail
    refine HL.out.mono ?_
    rintro e w' ⟨rfl,rfl⟩
    go_wp2
    go_ret
    exact ⟨ret_int e.out.symm,by rw [hM.out];exact .same R (Kep.refl _ _)⟩

set_option maxHeartbeats 400000 in
theorem progPay_any (w:World) (L:PL) (m:Mt) (N t x:Int) (R:PRep w L m) (ok:m.Ok N) :
    Calls Tryz.prog 30 #[.pointer (some ⟨L.x,0,none⟩),.int .i64 t,.int .i64 x] w fun e w'=>e = .returned (.int .i64 (payE m t x))∧PPost w L m (payM m t x) w':=by
  have c2:=R.cA.cell
  have bT:=ok.T8
  by_cases ht:okI m.T t
  · by_cases hx:okN x 1000000000000
    · obtain ⟨k,rfl⟩:=Int.eq_ofNat_of_zero_le ht.1
      have hk:k<m.T:=by have:=ht.2;omega
      have hx1:=hx.1
      have hx2:=hx.2
      obtain ⟨bm0,bm1⟩:=ok.mo k hk
      have i1:=hide (inB_okI ht)
      have i2:=hide (inR_okN hx)
      have bS:=sumM_bd ok m.T (Nat.le_refl _)
      by_cases hS:1000000000000<m.sumM m.T+x
      · have e:Hid (payE m k x=8):=hide (by simp [payE,ht,hx,hS])
        have HQ:=hide (allMoney_any w L m N R ok)
        generalize m.sumM m.T=S at *
        go_enter Tryz.func30,Tryz.ntmps30
        go_wp2_with (first | (go_at_call 63;refine (hasTrader_b _ _ _ _ _ _ bT c2).mono ?_;rw [i1.out];rintro e w' ⟨rfl,rfl⟩) | (go_at_call 78;refine (within_b _ _ _ _).mono ?_;rw [i2.out];rintro e w' ⟨rfl,rfl⟩))
        refine HQ.out.mono ?_
        rintro e w1 ⟨rfl,hkp⟩
        go_wp2
        go_ret
        exact ⟨ret_int e.out.symm,by rw [payM,e.out];exact .same R (Kep.of_below hkp)⟩
      · have e:Hid (payE m k x=0):=hide (by simp [payE,ht,hx,hS])
        have HQ:=hide (allMoney_any w L m N R ok)
        generalize m.sumM m.T=S at *
        go_enter Tryz.func30,Tryz.ntmps30
        go_wp2_with (first | (go_at_call 63;refine (hasTrader_b _ _ _ _ _ _ bT c2).mono ?_;rw [i1.out];rintro e w' ⟨rfl,rfl⟩) | (go_at_call 78;refine (within_b _ _ _ _).mono ?_;rw [i2.out];rintro e w' ⟨rfl,rfl⟩))
        refine HQ.out.mono ?_
        rintro e w1 ⟨rfl,hkp⟩
        have Rr:=R.bel hkp
        obtain ⟨cm,cf⟩:=Rr.mo k hk
        have c2':=Rr.cA.cell
        clear Rr
        go_wp2
        go_ret
        exact ⟨ret_int e.out.symm,by rw [payM,e.out];exact .mo R (Kep.of_below hkp) k hk _⟩
    · have e:Hid (payE m t x=5):=hide (by simp [payE,ht,hx])
      have i1:=hide (inB_okI ht)
      have i2:=hide (inR_not hx)
      go_enter Tryz.func30,Tryz.ntmps30
      go_wp2_with (first | (go_at_call 63;refine (hasTrader_b _ _ _ _ _ _ bT c2).mono ?_;rw [i1.out];rintro e w' ⟨rfl,rfl⟩) | (go_at_call 78;refine (within_b _ _ _ _).mono ?_;rw [i2.out];rintro e w' ⟨rfl,rfl⟩))
      go_ret
      exact ⟨ret_int e.out.symm,by rw [payM,e.out];exact .same R (Kep.refl _ _)⟩
  · have e:Hid (payE m t x=2):=hide (by simp [payE,ht])
    have i1:=hide (inB_not ht)
    go_enter Tryz.func30,Tryz.ntmps30
    go_wp2_with (first | (go_at_call 63;refine (hasTrader_b _ _ _ _ _ _ bT c2).mono ?_;rw [i1.out];rintro e w' ⟨rfl,rfl⟩))
    go_ret
    exact ⟨ret_int e.out.symm,by rw [payM,e.out];exact .same R (Kep.refl _ _)⟩

set_option maxRecDepth 100000 in
set_option maxHeartbeats 1000000 in
theorem allPieces_any (w:World) (L:PL) (m:Mt) (N:Int) (R:PRep w L m) (ok:m.Ok N) (g:Nat) (hg:g<m.G) :
    Calls Tryz.prog 85 #[.pointer (some ⟨L.x,0,none⟩),.int .i64 g] w fun e w'=>e = .returned (.int .i64 (totTo m g m.T))∧Below w.heap.size w w':=by
  have c2:=R.cA.cell
  have bT:=ok.T8
  have bG:=ok.G4
  have bH:=ok.H4
  go_enter Tryz.func85,Tryz.ntmps85
  go_wp2
  clear c2
  go_loopw [5,14] (fun a i wr=>∃ j:Nat,j≤m.T∧i = .int .i64 j∧a = .int .i64 (totTo m g j)∧Below w.heap.size w wr) (fun _ i _=>m.T - (intOf i).toNat)
  case atStart=>exact ⟨0,Nat.zero_le _,rfl,by simp [totTo],Below.refl _ _⟩
  case round =>
    obtain ⟨j,hj,rfl,rfl,hkp⟩:=hrel
    obtain ⟨bt0,bt1⟩:=totTo_bd ok g hg j hj
    by_cases hlt:j<m.T
    · have Rr:=R.bel hkp
      have c1:=Rr.cR.cell
      clear Rr
      go_wp2
      clear c1
      go_loopw [5,22] (fun a i wr=>∃ k:Nat,k≤m.H∧i = .int .i64 k∧a = .int .i64 (totTo m g j+rowTo m g j k)∧Below w.heap.size w wr) (fun _ i _=>m.H - (intOf i).toNat)
      case atStart=>exact ⟨0,Nat.zero_le _,rfl,by simp [rowTo],hkp⟩
      case round =>
        clear hkp
        obtain ⟨k,hk,rfl,rfl,hkp⟩:=hrel
        obtain ⟨br0,br1⟩:=rowTo_bd ok g j hg hlt k hk
        by_cases hlk:k<m.H
        · have Rr:=R.bel hkp
          have HQ:=hide (stock_any _ L m N Rr ok j k g hlt hlk hg)
          obtain ⟨bm0,bm1⟩:=ok.pc j k g hlt hlk hg
          obtain ⟨bc0,bc1⟩:=come_ok ok j k g
          have bN:=ok.bN
          have bk:=kept_ok ok j (h:=k) (g:=g) hlk hg
          have HR:=hide (show rowTo m g j (k+1)=rowTo m g j k+(m.pc j k g+m.kept j k g+m.come j k g) from rfl)
          clear R ok Rr
          generalize m.pc j k g=x at *
          generalize m.come (j:Int) (k:Int) (g:Int)=y at *
          generalize m.kept (j:Int) k g=z at *
          go_wp2_with fail
          refine HQ.out.mono ?_
          rintro e w1 ⟨rfl,hk1⟩
          clear HQ
          go_wp2
          refine ⟨⟨k+1,by omega,by go_num,?_,(hkp.trans (hk1.mono hkp.size)).alloc (Nat.le_trans hkp.size hk1.size) _⟩,by simp [intOf];omega⟩
          rw [HR.out]
          exact congrArg (Value.int .i64) (by omega)
        · have e1:k=m.H:=by omega
          subst e1
          go_wp2
          refine ⟨⟨j+1,by omega,by go_num,?_,hkp⟩,by simp [intOf];omega⟩
          rw [totTo]
    · have e1:j=m.T:=by omega
      subst e1
      go_wp2
      go_ret
      exact ⟨rfl,hkp⟩

set_option maxRecDepth 100000 in
set_option maxHeartbeats 1000000 in
theorem progBring_any (w:World) (L:PL) (m:Mt) (N t h g n:Int) (R:PRep w L m) (ok:m.Ok N) :
    Calls Tryz.prog 34 #[.pointer (some ⟨L.x,0,none⟩),.int .i64 t,.int .i64 h,.int .i64 g,.int .i64 n] w fun e w'=>e = .returned (.int .i64 (bringE m t h g n))∧PPost w L m (bringM m t h g n) w':=by
  have bT:=ok.T8
  have bG:=ok.G4
  have bH:=ok.H4
  have HL:=hide (check_any w L m N t h g n R ok)
  by_cases hl:lotsE m t h g n=0
  · obtain ⟨⟨t0,t1⟩,⟨h0,h1⟩,⟨g0,g1⟩,⟨n0,n1⟩⟩:=lotsE_zero hl
    obtain ⟨t,rfl⟩:=Int.eq_ofNat_of_zero_le t0
    obtain ⟨h,rfl⟩:=Int.eq_ofNat_of_zero_le h0
    obtain ⟨g,rfl⟩:=Int.eq_ofNat_of_zero_le g0
    have ht:t<m.T:=by omega
    have hh:h<4:=by omega
    have hg:g<4:=by omega
    obtain ⟨bm0,bm1⟩:=ok.pc t h g ht (by omega) (by omega)
    have bN:=ok.bN
    rw [hl] at HL
    have HE:=hide (show bringE m t h g n=if 1000000<totTo m g m.T+n then 8 else 0 by simp [bringE,hl])
    clear hl
    obtain ⟨bt0,bt1⟩:=totTo_bd ok g (by omega) m.T (Nat.le_refl _)
    have HQ:=hide (allPieces_any w L m N R ok g (by omega))
    generalize totTo m g m.T=S at *
    by_cases hS:1000000<S+n
    · have e:Hid (bringE m t h g n=8):=hide (by rw [HE.out,if_pos hS])
      go_enter Tryz.func34,Tryz.ntmps34
      go_wp2_with fail
      refine HL.out.mono ?_
      rintro e w' ⟨rfl,rfl⟩
      go_wp2_with fail
      refine HQ.out.mono ?_
      rintro e w1 ⟨rfl,hkp⟩
      go_wp2
      go_ret
      exact ⟨ret_int e.out.symm,by rw [bringM,e.out];exact .same R (Kep.of_below hkp)⟩
    · have e:Hid (bringE m t h g n=0):=hide (by rw [HE.out,if_neg hS])
      go_enter Tryz.func34,Tryz.ntmps34
      go_wp2_with fail
      refine HL.out.mono ?_
      rintro e w' ⟨rfl,rfl⟩
      go_wp2_with fail
      refine HQ.out.mono ?_
      rintro e w1 ⟨rfl,hkp⟩
      have Rr:=R.bel hkp
      obtain ⟨cm,cf⟩:=Rr.pc t h g ht hh hg
      have c2:=Rr.cA.cell
      clear Rr
      go_wp2
      go_region
      all_goals go_wp2
      all_goals go_ret
      all_goals refine ⟨ret_int e.out.symm,?_⟩
      all_goals rw [bringM,e.out]
      all_goals exact (PPost.pcs R (Kep.of_below hkp) t h g ht hh hg _).later ((Kep.refl _ _).drew)
  · have e:Hid (bringE m t h g n=lotsE m t h g n):=hide (by simp [bringE,hl])
    have hM:Hid (bringM m t h g n=m):=hide (by simp [bringM,e.out,hl])
    generalize lotsE m t h g n=E at *
    have hne:(E != 0)=true:=by simpa using hl
    clear hl
    go_enter Tryz.func34,Tryz.ntmps34
    go_wp2_with fail
    refine HL.out.mono ?_
    rintro e w' ⟨rfl,rfl⟩
    go_wp2
    go_ret
    exact ⟨ret_int e.out.symm,by rw [hM.out];exact .same R (Kep.refl _ _)⟩
end

section
open Go.RowKit Go.Sort

def far (a b:Int):Int:=if b<a then a - b else b - a
def shipE (m:Mt) (t f o g n:Int):Int :=
  if ¬ okI m.T t then 2 else if ¬ okI m.H f∨¬ okI m.H o∨f=o then 3 else if ¬ okI m.G g then 4 else if ¬ okN n 10000 then 5 else if m.pc t.toNat f.toNat g.toNat<n then 7 else if 20≤m.ld.length then 8 else 0
def shipM (m:Mt) (t f o g n:Int):Mt :=
  if shipE m t f o g n=0 then { m.setPc t.toNat f.toNat g.toNat (m.pc t.toNat f.toNat g.toNat - n) with ld:=m.ld ++ [⟨t,o,g,n,m.tm+2 * far f o⟩] } else m
def shipGood (m:Mt) (t f o g n:Int):Prop:=okI m.T t∧okI m.H o∧f≠o∧lotsE m t f g n=0
theorem shipE_good {m:Mt} {t f o g n:Int} (h:shipGood m t f o g n):shipE m t f o g n=if m.pc t.toNat f.toNat g.toNat<n then 7 else if 20≤m.ld.length then 8 else 0:=by
  obtain ⟨h1,h2,h3,h4⟩:=h
  obtain ⟨_,h5,h6,h7⟩:=lotsE_zero h4
  simp [shipE,h1,h2,h3,h5,h6,h7]

theorem infoLoad:(Tryz.prog.info? 139).map (fun i=>(i.zero,i.size,i.bytes))=some (some (.agg #[.int .i64 0,.int .i64 0,.int .i64 0,.int .i64 0,.int .i64 0]),5,40):=by kernel_rfl

theorem loCells_append (a b:List Lo):loCells (a ++ b)=loCells a ++ loCells b:=by simp [loCells]
theorem loCells_length (a:List Lo):(loCells a).length=a.length * 5:=by
  induction a with
  | nil=>rfl
  | cons x a ih=>simp only [loCells,List.flatMap_cons,List.length_append] at ih ⊢;rw [ih];simp [Lo.cells];omega

theorem news_of_last' {W:World} (X:Array Value) (t:TypeId) {B:Nat} (hB:B=W.heap.size):∀ j u,X.toList[j]? = some u→(W.alloc (.cells X t)).cell? ((⟨B,0,none⟩ : Addr).add j)=some u:=by
  subst hB
  exact World.news_of_block (heap_alloc_new W _)
theorem Lo.oneCell' (l:Lo):∀ u,u∈l.cells→u.oneCell'=true:=by simp [Lo.cells,Value.oneCell']

theorem PRep.setLd {w w1:World} {L:PL} {m:Mt} (R:PRep w L m) (hlt:∀ b,L.S m b→b<w.heap.size) (hrb:L.rb<w.heap.size∧L.bb<w.heap.size) (k:Kep (fun b=>L.lv.ownBlock=some b) w w1) (ls:List Lo) (v:Value) (hr:w1.ownsRow 0 139 5 v ls.length (loCells ls)) (hv:∀ b,v.ownBlock=some b→L.lv.ownBlock=some b∨w.heap.size≤b) :
    PRep (w1.setCell ⟨L.x,3,none⟩ v) { L with lv:=v } { m with ld:=ls }:=by
  have ab:∀ {j:Jx} {b:Nat},L.F m j=some b→j ≠ .lv→L.lv.ownBlock≠some b:=fun h hj q=>hj (R.inj _ .lv _ h q)
  have ax:∀ {j:Jx} {b:Nat},L.F m j=some b→j ≠ .x→b≠L.x:=fun h hj=>R.ne h (show L.F m .x=some L.x from rfl) hj
  have a1:L.lv.ownBlock≠some L.x:=ab (j:=.x) rfl (by simp)
  have vx:v.ownBlock≠some L.x:=fun q=>by
    rcases hv _ q with h | h
    · exact a1 h
    · have:=hlt L.x ⟨.x,rfl⟩;omega
  have k2:Kep (fun b=>L.lv.ownBlock=some b∨b=L.x) w (w1.setCell ⟨L.x,3,none⟩ v):=(k.mono (S':=fun b=>L.lv.ownBlock=some b∨b=L.x) (fun _ h=>.inl (.inl h))).setCell (p:=⟨L.x,3,none⟩) (.inl (.inr rfl)) _
  have oc:∀ {o:Nat} {u:Value},o≠3→Own w ⟨L.x,o,none⟩ u→Own (w1.setCell ⟨L.x,3,none⟩ v) ⟨L.x,o,none⟩ u:=fun ho hu=>(hu.kep k a1).set_other (by intro q;injection q with _ q _;exact ho q) rfl rfl _
  have nn:∀ {j:Jx} {b:Nat},L.F m j=some b→j ≠ .lv→j ≠ .x→¬ (L.lv.ownBlock=some b∨b=L.x):=fun h h1 h2 q=>by
    rcases q with q | q
    · exact ab h h1 q
    · exact ax h h2 q
  have a3:∀ i,i<m.H→¬ (L.lv.ownBlock=some (L.gb i)∨L.gb i=L.x):=fun i hi=>nn (j:=.gb i) (by simp [PL.F,hi]) (by simp) (by simp)
  have a4:∀ i g s,at3 m i g s→¬ (L.lv.ownBlock=some (L.qb i g s)∨L.qb i g s=L.x):=fun i g s q=>nn (j:=.qb i g s) (by simp [PL.F,q]) (by simp) (by simp)
  have a5:∀ i g s b,at3 m i g s→(L.qv i g s).ownBlock=some b→¬ (L.lv.ownBlock=some b∨b=L.x):=fun i g s b q e=>nn (j:=.qv i g s) (by simp [PL.F,q,e]) (by simp) (by simp)
  have a6:∀ i g s n b,at3 m i g s→(L.ob i g s)[n]? = some b→¬ (L.lv.ownBlock=some b∨b=L.x):=fun i g s n b q e=>nn (j:=.ob i g s n) (by simp [PL.F,q,e]) (by simp) (by simp)
  have a2:¬ (L.lv.ownBlock=some L.ab∨L.ab=L.x):=nn (j:=.ab) rfl (by simp) (by simp)
  have a7:¬ (L.lv.ownBlock=some L.rb∨L.rb=L.x):=fun q=>by
    rcases q with q | q
    · exact R.nrb ⟨.lv,q⟩
    · exact R.nrb ⟨.x,by rw [q];rfl⟩
  have a8:¬ (L.lv.ownBlock=some L.bb∨L.bb=L.x):=fun q=>by
    rcases q with q | q
    · exact R.nbb ⟨.lv,q⟩
    · exact R.nbb ⟨.x,by rw [q];rfl⟩
  have F0:∀ {j:Jx} {b:Nat},({ L with lv:=v }:PL).F { m with ld:=ls } j=some b→(j = .lv∧v.ownBlock=some b)∨(j ≠ .lv∧L.F m j=some b):=fun {j b} h=>by
    rcases j with _ | _ | _ | i | ⟨i,g,s⟩ | ⟨i,g,s⟩ | ⟨i,g,s,n⟩
    · exact .inr ⟨by simp,h⟩
    · exact .inr ⟨by simp,h⟩
    · exact .inl ⟨rfl,h⟩
    · exact .inr ⟨by simp,h⟩
    · exact .inr ⟨by simp,h⟩
    · exact .inr ⟨by simp,h⟩
    · exact .inr ⟨by simp,h⟩
  have nv:∀ {j:Jx} {b:Nat},L.F m j=some b→j ≠ .lv→v.ownBlock≠some b:=fun {j b} h hj q=>by
    rcases hv _ q with e | e
    · exact ab h hj e
    · have:=hlt b ⟨j,h⟩;omega
  refine ⟨oc (by decide) R.cG,oc (by decide) R.cR,oc (by decide) R.cA,(R.cL.kep k a1).set rfl _,oc (by decide) R.cB,oc (by decide) R.cN,oc (by decide) R.cH,oc (by decide) R.cTm,fun i hi=>k2.cell (R.rt i hi) a7,fun t ht=>(R.mo t ht).kep k2 a2,fun t i g ht hi hg=>(R.pc t i g ht hi hg).kep k2 a2,
    ownsRow_setCell_other hr vx _,fun i hi=>k2.cell (R.bks i hi) a8,fun i g s q=>(R.sd i g s q).kep k2 (a3 i q.1),fun i g hi hg=>(R.la i g hi hg).kep k2 (a3 i hi),fun i g hi hg=>(R.pi i g hi hg).kep k2 (a3 i hi),fun i g hi hg=>(R.am i g hi hg).kep k2 (a3 i hi),
    fun i g s q=>k2.cell (R.q0 i g s q) (a4 i g s q),fun i g s q=>(R.q1 i g s q).kep k2 (a4 i g s q),fun i g s q=>ownsRow_kep (R.qr i g s q) k2 (fun b e=>a5 i g s b q e),R.ln,fun i g s n b o q e1 e2 j u e3=>(R.oc i g s n b o q e1 e2 j u e3).kep k2 (a6 i g s n b q e1),fun i g s n b q e=>(R.oz i g s n b q e).kep k2 (a6 i g s n b q e),fun i j b h1 h2=>?_,?_,?_⟩
  · rcases F0 h1 with ⟨rfl,q1⟩ | ⟨n1,q1⟩
    · rcases F0 h2 with ⟨rfl,_⟩ | ⟨n2,q2⟩
      · rfl
      · exact absurd q1 (nv q2 n2)
    · rcases F0 h2 with ⟨rfl,q2⟩ | ⟨_,q2⟩
      · exact absurd q2 (nv q1 n1)
      · exact R.inj i j b q1 q2
  · rintro ⟨j,h⟩
    rcases F0 h with ⟨rfl,q⟩ | ⟨_,q⟩
    · rcases hv _ q with e | e
      · exact R.nrb ⟨.lv,e⟩
      · have:=hrb.1;simp only [] at e;omega
    · exact R.nrb ⟨j,q⟩
  · rintro ⟨j,h⟩
    rcases F0 h with ⟨rfl,q⟩ | ⟨_,q⟩
    · rcases hv _ q with e | e
      · exact R.nbb ⟨.lv,e⟩
      · have:=hrb.2;simp only [] at e;omega
    · exact R.nbb ⟨j,q⟩

theorem S_lv {L:PL} {m m':Mt} {v:Value} {b:Nat} (hH:m'.H=m.H) (hG:m'.G=m.G) (h:({ L with lv:=v }:PL).S m' b):v.ownBlock=some b∨L.S m b:=by
  obtain ⟨j,h⟩:=h
  rcases j with _ | _ | _ | i | ⟨i,g,s⟩ | ⟨i,g,s⟩ | ⟨i,g,s,n⟩
  · exact .inr ⟨.x,h⟩
  · exact .inr ⟨.ab,h⟩
  · exact .inl h
  · exact .inr ⟨.gb i,by simpa [PL.F,hH] using h⟩
  · refine .inr ⟨.qb i g s,?_⟩
    by_cases q:at3 m i g s
    · have q':at3 m' i g s:=by simpa only [at3,hH,hG] using q
      simp only [PL.F,if_pos q'] at h
      simp only [PL.F,if_pos q,h]
    · have q':¬ at3 m' i g s:=by simpa only [at3,hH,hG] using q
      simp only [PL.F,if_neg q'] at h
      cases h
  · refine .inr ⟨.qv i g s,?_⟩
    by_cases q:at3 m i g s
    · have q':at3 m' i g s:=by simpa only [at3,hH,hG] using q
      simp only [PL.F,if_pos q'] at h
      simp only [PL.F,if_pos q,h]
    · have q':¬ at3 m' i g s:=by simpa only [at3,hH,hG] using q
      simp only [PL.F,if_neg q'] at h
      cases h
  · refine .inr ⟨.ob i g s n,?_⟩
    by_cases q:at3 m i g s
    · have q':at3 m' i g s:=by simpa only [at3,hH,hG] using q
      simp only [PL.F,if_pos q'] at h
      simp only [PL.F,if_pos q,h]
    · have q':¬ at3 m' i g s:=by simpa only [at3,hH,hG] using q
      simp only [PL.F,if_neg q'] at h
      cases h

theorem S_eq {L:PL} {m m':Mt} {b:Nat} (hH:m'.H=m.H) (hG:m'.G=m.G) (h:L.S m' b):L.S m b:=by
  rcases S_lv (L:=L) (v:=L.lv) hH hG h with q | q
  · exact ⟨.lv,q⟩
  · exact q

theorem pship_end {w W2 w0 w1:World} {L:PL} {m m0:Mt} {gg cap:Nat} (hH:m.H=m0.H) (hG:m.G=m0.G) (K2:Kep (L.S m0) w W2) (R2:PRep W2 L m) (k0:Kep non W2 w0) (hgrow:w0.grownBy w1 L.lv.ownBlock) (l:Lo)
    (hown1:w1.ownsRow 0 139 5 (.slice (some ⟨gg,0,none⟩) (m.ld.length+1) cap) (m.ld.length+1) (loCells m.ld ++ l.cells)) (hat:L.lv.ownBlock=some gg∨gg=W2.heap.size+1) (T1:1≤m.T) (G1:1≤m.G) (H1:1≤m.H) :
    PPost w L m0 { m with ld:=m.ld ++ [l] } (w1.setCell ⟨L.x,3,none⟩ (.slice (some ⟨gg,0,none⟩) (m.ld.length+1) cap)):=by
  have k1:Kep (fun b=>L.lv.ownBlock=some b) W2 w1:=(k0.none (S:=fun b=>L.lv.ownBlock=some b)).grown hgrow (fun k hk=>.inl hk)
  have hS:∀ b,L.lv.ownBlock=some b→L.S m0 b:=fun b hb=>⟨.lv,hb⟩
  refine ⟨(K2.trans' k1 (fun i hi=>.inl (hS i hi))).setCell (p:=⟨L.x,3,none⟩) (.inl ⟨.x,rfl⟩) _,{ L with lv:=.slice (some ⟨gg,0,none⟩) (m.ld.length+1) cap },⟨rfl,rfl,rfl⟩,fun b hb=>?_,?_⟩
  · rcases S_lv (m:=m0) (by exact hH) (by exact hG) hb with q | q
    · obtain rfl:gg=b:=by simpa [Value.ownBlock] using q
      rcases hat with h | h
      · exact .inl (hS _ h)
      · right
        have:=K2.size
        omega
    · exact .inl q
  · refine R2.setLd (R2.lt T1 G1) (R2.rblt H1) k1 (m.ld ++ [l]) _ (by simpa [loCells_append,loCells] using hown1) (fun b hb=>?_)
    obtain rfl:gg=b:=by simpa [Value.ownBlock] using hb
    rcases hat with h | h
    · exact .inl h
    · right;omega

theorem distance_any (a b:Nat) (w:World) (ha:a≤4) (hb:b≤4):Calls Tryz.prog 90 #[.int .i64 a,.int .i64 b] w fun e w'=>e = .returned (.int .i64 (far a b))∧w'=w:=by
  go_enter Tryz.func90,Tryz.ntmps90
  go_wp2
  all_goals go_ret
  all_goals refine ⟨ret_int ?_,rfl⟩
  all_goals unfold far
  all_goals split <;> omega

set_option maxHeartbeats 400000 in
theorem progShip_bad (w:World) (L:PL) (m:Mt) (N t f o g n:Int) (R:PRep w L m) (ok:m.Ok N) (hb:¬ shipGood m t f o g n) :
    Calls Tryz.prog 38 #[.pointer (some ⟨L.x,0,none⟩),.int .i64 t,.int .i64 f,.int .i64 o,.int .i64 g,.int .i64 n] w fun e w'=>e = .returned (.int .i64 (shipE m t f o g n))∧PPost w L m (shipM m t f o g n) w':=by
  have c0:=R.cG.cell
  have c1:=R.cR.cell
  have c2:=R.cA.cell
  have bT:=ok.T8
  have bG:m.G≤8:=by have:=ok.G4;omega
  have bH:m.H≤8:=by have:=ok.H4;omega
  by_cases h1:okI m.T t
  · have i1:=hide (inB_okI h1)
    by_cases h2:okI m.H f
    · have i2:=hide (inB_okI h2)
      by_cases h3:okI m.H o
      · have i3:=hide (inB_okI h3)
        by_cases h4:f=o
        · have i4:(f == o)=true:=beq_iff_eq.2 h4
          have e:Hid (shipE m t f o g n=3):=hide (by simp [shipE,h1,h3,h4])
          go_enter Tryz.func38,Tryz.ntmps38
          go_wp2_with (first | (go_at_call 63;refine (hasTrader_b _ _ _ _ _ _ bT c2).mono ?_;rw [i1.out];rintro e w' ⟨rfl,rfl⟩) | (go_at_call 88;refine (hasHall_b _ _ _ _ _ _ bH c1).mono ?_;(first | rw [i2.out] | rw [i3.out]);rintro e w' ⟨rfl,rfl⟩))
          go_ret
          exact ⟨ret_int e.out.symm,by rw [shipM,e.out];exact .same R (Kep.refl _ _)⟩
        · have i4:(f == o)=false:=beq_eq_false_iff_ne.2 h4
          by_cases h5:okI m.G g
          · have i5:=hide (inB_okI h5)
            by_cases h6:okN n 10000
            · exact absurd ⟨h1,h3,h4,by simp [lotsE,h1,h2,h5,h6]⟩ hb
            · have i6:=hide (inR_not h6)
              have e:Hid (shipE m t f o g n=5):=hide (by simp [shipE,h1,h2,h3,h4,h5,h6])
              go_enter Tryz.func38,Tryz.ntmps38
              go_wp2_with (first | (go_at_call 63;refine (hasTrader_b _ _ _ _ _ _ bT c2).mono ?_;rw [i1.out];rintro e w' ⟨rfl,rfl⟩) | (go_at_call 88;refine (hasHall_b _ _ _ _ _ _ bH c1).mono ?_;(first | rw [i2.out] | rw [i3.out]);rintro e w' ⟨rfl,rfl⟩) | (go_at_call 89;refine (hasGood_b _ _ _ _ bG c0).mono ?_;rw [i5.out];rintro e w' ⟨rfl,rfl⟩) | (go_at_call 78;refine (within_b _ _ _ _).mono ?_;rw [i6.out];rintro e w' ⟨rfl,rfl⟩))
              go_ret
              exact ⟨ret_int e.out.symm,by rw [shipM,e.out];exact .same R (Kep.refl _ _)⟩
          · have i5:=hide (inB_not h5)
            have e:Hid (shipE m t f o g n=4):=hide (by simp [shipE,h1,h2,h3,h4,h5])
            go_enter Tryz.func38,Tryz.ntmps38
            go_wp2_with (first | (go_at_call 63;refine (hasTrader_b _ _ _ _ _ _ bT c2).mono ?_;rw [i1.out];rintro e w' ⟨rfl,rfl⟩) | (go_at_call 88;refine (hasHall_b _ _ _ _ _ _ bH c1).mono ?_;(first | rw [i2.out] | rw [i3.out]);rintro e w' ⟨rfl,rfl⟩) | (go_at_call 89;refine (hasGood_b _ _ _ _ bG c0).mono ?_;rw [i5.out];rintro e w' ⟨rfl,rfl⟩))
            go_ret
            exact ⟨ret_int e.out.symm,by rw [shipM,e.out];exact .same R (Kep.refl _ _)⟩
      · have i3:=hide (inB_not h3)
        have e:Hid (shipE m t f o g n=3):=hide (by simp [shipE,h1,h2,h3])
        go_enter Tryz.func38,Tryz.ntmps38
        go_wp2_with (first | (go_at_call 63;refine (hasTrader_b _ _ _ _ _ _ bT c2).mono ?_;rw [i1.out];rintro e w' ⟨rfl,rfl⟩) | (go_at_call 88;refine (hasHall_b _ _ _ _ _ _ bH c1).mono ?_;(first | rw [i2.out] | rw [i3.out]);rintro e w' ⟨rfl,rfl⟩))
        go_ret
        exact ⟨ret_int e.out.symm,by rw [shipM,e.out];exact .same R (Kep.refl _ _)⟩
    · have i2:=hide (inB_not h2)
      have e:Hid (shipE m t f o g n=3):=hide (by simp [shipE,h1,h2])
      go_enter Tryz.func38,Tryz.ntmps38
      go_wp2_with (first | (go_at_call 63;refine (hasTrader_b _ _ _ _ _ _ bT c2).mono ?_;rw [i1.out];rintro e w' ⟨rfl,rfl⟩) | (go_at_call 88;refine (hasHall_b _ _ _ _ _ _ bH c1).mono ?_;rw [i2.out];rintro e w' ⟨rfl,rfl⟩))
      go_ret
      exact ⟨ret_int e.out.symm,by rw [shipM,e.out];exact .same R (Kep.refl _ _)⟩
  · have i1:=hide (inB_not h1)
    have e:Hid (shipE m t f o g n=2):=hide (by simp [shipE,h1])
    go_enter Tryz.func38,Tryz.ntmps38
    go_wp2_with (first | (go_at_call 63;refine (hasTrader_b _ _ _ _ _ _ bT c2).mono ?_;rw [i1.out];rintro e w' ⟨rfl,rfl⟩))
    go_ret
    exact ⟨ret_int e.out.symm,by rw [shipM,e.out];exact .same R (Kep.refl _ _)⟩

set_option maxRecDepth 100000 in
set_option maxHeartbeats 1000000 in
theorem progShip_good (w:World) (L:PL) (m:Mt) (N:Int) (t f d g:Nat) (n:Int) (R:PRep w L m) (ok:m.Ok N) (hb:shipGood m t f d g n) :
    Calls Tryz.prog 38 #[.pointer (some ⟨L.x,0,none⟩),.int .i64 t,.int .i64 f,.int .i64 d,.int .i64 g,.int .i64 n] w fun e w'=>e = .returned (.int .i64 (shipE m t f d g n))∧PPost w L m (shipM m t f d g n) w':=by
  have HE:=hide (shipE_good hb)
  have c0:=R.cG.cell
  have c1:=R.cR.cell
  have c2:=R.cA.cell
  have bT:=ok.T8
  have bG:m.G≤8:=by have:=ok.G4;omega
  have bH:m.H≤8:=by have:=ok.H4;omega
  obtain ⟨k1,k3,hne,hl⟩:=hb
  obtain ⟨_,k2,k5,k6⟩:=lotsE_zero hl
  clear hl
  have i1:=hide (inB_okI k1)
  have i2:=hide (inB_okI k2)
  have i3:=hide (inB_okI k3)
  have i5:=hide (inB_okI k5)
  have i6:=hide (inR_okN k6)
  obtain ⟨_,t1⟩:=k1
  obtain ⟨_,f1⟩:=k2
  obtain ⟨_,d1⟩:=k3
  obtain ⟨_,g1⟩:=k5
  obtain ⟨n0,n1⟩:=k6
  have ht:t<m.T:=by omega
  have bH4:=ok.H4
  have bG4:=ok.G4
  have hf:f<4:=by omega
  have hd:d<4:=by omega
  have hg:g<4:=by omega
  have i4:((f:Int) == (d:Int))=false:=beq_eq_false_iff_ne.2 hne
  obtain ⟨cm,cf⟩:=R.pc t f g ht hf hg
  obtain ⟨bm0,bm1⟩:=ok.pc t f g ht (by omega) (by omega)
  have bN:=ok.bN
  obtain ⟨la,lc,hlv⟩ : ∃ a c,L.lv = .slice a m.ld.length c:=by
    rcases R.ld.2 with ⟨h1,h2⟩ | ⟨_,_,_,h1,_⟩
    · exact ⟨none,0,by rw [h1,h2]⟩
    · exact ⟨_,_,h1⟩
  have c3:=R.cL.cell
  rw [hlv] at c3
  have HV:=hide hlv
  clear hlv
  by_cases hS:m.pc t f g<n
  · have e:Hid (shipE m t f d g n=7):=hide (by rw [HE.out];simp [hS])
    go_enter Tryz.func38,Tryz.ntmps38
    go_wp2_with (first | (go_at_call 63;refine (hasTrader_b _ _ _ _ _ _ bT c2).mono ?_;rw [i1.out];rintro e w' ⟨rfl,rfl⟩) | (go_at_call 88;refine (hasHall_b _ _ _ _ _ _ bH c1).mono ?_;(first | rw [i2.out] | rw [i3.out]);rintro e w' ⟨rfl,rfl⟩) | (go_at_call 89;refine (hasGood_b _ _ _ _ bG c0).mono ?_;rw [i5.out];rintro e w' ⟨rfl,rfl⟩) | (go_at_call 78;refine (within_b _ _ _ _).mono ?_;rw [i6.out];rintro e w' ⟨rfl,rfl⟩))
    go_ret
    exact ⟨ret_int e.out.symm,by rw [shipM,e.out];exact .same R (Kep.refl _ _)⟩
  · by_cases h20:20≤m.ld.length
    · have e:Hid (shipE m t f d g n=8):=hide (by rw [HE.out];simp [hS,h20])
      go_enter Tryz.func38,Tryz.ntmps38
      go_wp2_with (first | (go_at_call 63;refine (hasTrader_b _ _ _ _ _ _ bT c2).mono ?_;rw [i1.out];rintro e w' ⟨rfl,rfl⟩) | (go_at_call 88;refine (hasHall_b _ _ _ _ _ _ bH c1).mono ?_;(first | rw [i2.out] | rw [i3.out]);rintro e w' ⟨rfl,rfl⟩) | (go_at_call 89;refine (hasGood_b _ _ _ _ bG c0).mono ?_;rw [i5.out];rintro e w' ⟨rfl,rfl⟩) | (go_at_call 78;refine (within_b _ _ _ _).mono ?_;rw [i6.out];rintro e w' ⟨rfl,rfl⟩))
      go_ret
      exact ⟨ret_int e.out.symm,by rw [shipM,e.out];exact .same R (Kep.refl _ _)⟩
    · have e:Hid (shipE m t f d g n=0):=hide (by rw [HE.out];simp [hS,h20])
      obtain ⟨tm0,tm1⟩:=ok.tm
      go_enter Tryz.func38,Tryz.ntmps38
      go_wp2_with (first | (go_at_call 63;refine (hasTrader_b _ _ _ _ _ _ bT c2).mono ?_;rw [i1.out];rintro e w' ⟨rfl,rfl⟩) | (go_at_call 88;refine (hasHall_b _ _ _ _ _ _ bH c1).mono ?_;(first | rw [i2.out] | rw [i3.out]);rintro e w' ⟨rfl,rfl⟩) | (go_at_call 89;refine (hasGood_b _ _ _ _ bG c0).mono ?_;rw [i5.out];rintro e w' ⟨rfl,rfl⟩) | (go_at_call 78;refine (within_b _ _ _ _).mono ?_;rw [i6.out];rintro e w' ⟨rfl,rfl⟩))
      go_region
      all_goals go_wp2
      obtain ⟨W2,hW2⟩ : ∃ W2,W2=(w'.setCell ⟨L.ab,t * 17+1+f * 4+g,none⟩ (.int .i64 (m.pc t f g - n))).drew:=⟨_,rfl⟩
      rw [← hW2]
      have K2:Kep (L.S m) w' W2:=by rw [hW2];exact ((Kep.refl (L.S m) _).setCell (p:=⟨L.ab,t * 17+1+f * 4+g,none⟩) (.inl ⟨.ab,rfl⟩) _).drew
      have R2:PRep W2 L (m.setPc t f g (m.pc t f g - n)):=by rw [hW2];exact (R.setPc t f g ht hf hg _).later ((Kep.refl _ _).drew)
      have HR:=hide R2
      obtain ⟨b3,f3⟩:=R2.cL
      rw [HV.out] at b3
      have b4:W2.cell? ⟨L.x,7,none⟩=some (.int .i64 m.tm):=R2.cTm.cell
      have hown:W2.ownsRow 0 139 5 L.lv m.ld.length (loCells m.ld):=R2.ld
      have q4:L.lv.ownBlock≠some L.x:=fun q=>by have:=R2.inj .lv .x L.x q rfl;simp at this
      have q5:L.lv.ownBlock≠some L.ab:=fun q=>by have:=R2.inj .lv .ab L.ab q rfl;simp at this
      rw [HV.out] at hown q4 q5
      have ca:∀ o,(W2.alloc o).cell? ⟨L.x,3,none⟩=some (.slice la m.ld.length lc):=fun o=>HV.out ▸ (R2.cL.kep ((Kep.refl non _).alloc o) (fun q=>q)).cell
      have fa:∀ o,(W2.alloc o).frozen? ⟨L.x,3,none⟩=false:=fun o=>(R2.cL.kep ((Kep.refl non _).alloc o) (fun q=>q)).free
      have lx:L.x<W2.heap.size:=World.block_lt_of_cell? W2 _ b3
      clear hW2 c0 c1 c2 c3 cm cf R2
      obtain ⟨j0,hi0,hz0,hz1,hz2⟩:=info_parts infoLoad
      have HD:=hide (fun W=>distance_any f d W (by omega) (by omega))
      have hfar:0≤far f d∧far f d≤4:=by unfold far;split <;> omega
      obtain ⟨fr0,fr1⟩:=hfar
      have HF:=hide (show shipM m t f d g n={ m.setPc t f g (m.pc t f g - n) with ld:=m.ld ++ [⟨t,d,g,n,m.tm+2 * far f d⟩] } by rw [shipM,e.out];rfl)
      generalize far (f:Int) (d:Int)=q at *
      go_quiet ((go_at_call 90;exact Calls.quiet_of_same (HD.out _)))
      go_wp2_with (at_builtin;refine wpList_append_lies _ rfl _ _ _ rfl 0 139 j0 _ 5 40 Tryz.underlying89 hi0 hz0 hz1 hz2 rfl (by omega) _ m.ld.length (loCells m.ld) rfl (by exact hown.alloc _) ⟨W2.heap.size,0,none⟩ 1 1 (Lo.cells ⟨t,d,g,n,m.tm+2 * q⟩) rfl rfl (by exact news_of_last' #[_,_,_,_,_] 139 (by simp)) (Lo.oneCell' _) (by omega) (by simp only [maxLen];omega) (by omega) (by simp) (W2.heap.size+1) (by simp) ?_)
      intro gg cap w1 hown1 hgrow hat hlt
      have z6:w1.cell? ⟨L.x,3,none⟩=some (.slice la m.ld.length lc):=by
        rw [hgrow.cell_far _ (by simp;omega) (Ne.symm q4)]
        exact ca _
      have z7:w1.frozen? ⟨L.x,3,none⟩=false:=by
        rw [hgrow.frozen_far _ (by simp;omega) (Ne.symm q4)]
        exact fa _
      go_wp2
      go_ret
      refine ⟨ret_int e.out.symm,?_⟩
      rw [HF.out]
      exact pship_end (m:=m.setPc t f g (m.pc t f g - n)) (m0:=m) rfl rfl K2 HR.out ((((Kep.refl non _).drewN _).alloc _)) (HV.out ▸ hgrow) ⟨t,d,g,n,m.tm+2 * q⟩ hown1 (HV.out ▸ hat) ok.T1 ok.G1 ok.H1
end

end Go.Proofs.YtcfoobhihhndjaaGreat
