
import Derived.ArgAppend
import Derived.Test.YtcfoobhihhndjaaGreatB06
namespace Go.Proofs.YtcfoobhihhndjaaGreat

section
open Go.RowKit Go.Sort

def landM (m:Mt) (now:Int):List Lo→Mt
  | []=>m
  | l :: r=>landM (if now<l.d then m else m.setPc l.t.toNat l.h.toNat l.g.toNat (m.pc l.t.toNat l.h.toNat l.g.toNat+l.n)) now r
def stay (now:Int) (ls:List Lo):List Lo:=ls.filter fun l=>decide (now<l.d)
def tickE (m:Mt):Int:=if 1000000000≤m.tm then 8 else 0
def tickM (m:Mt):Mt:=if tickE m=0 then { landM m (m.tm+1) m.ld with ld:=stay (m.tm+1) m.ld,tm:=m.tm+1 } else m

theorem landM_append (m:Mt) (now:Int) (a b:List Lo):landM m now (a ++ b)=landM (landM m now a) now b:=by
  induction a generalizing m with
  | nil=>rfl
  | cons x a ih=>simp only [List.cons_append,landM,ih]

theorem landM_same (m:Mt) (now:Int) (a:List Lo):(landM m now a).T=m.T∧(landM m now a).G=m.G∧(landM m now a).H=m.H∧(landM m now a).mo=m.mo∧(landM m now a).ld=m.ld∧(landM m now a).tm=m.tm:=by
  induction a generalizing m with
  | nil=>simp [landM]
  | cons x a ih =>
    simp only [landM]
    have:=ih (if now<x.d then m else m.setPc x.t.toNat x.h.toNat x.g.toNat (m.pc x.t.toNat x.h.toNat x.g.toNat+x.n))
    by_cases h:now<x.d
    · simpa [h] using this
    · simpa [h,Mt.setPc] using this

theorem stay_snoc (now:Int) (a:List Lo) (k:Nat) (hk:k<a.length):stay now (a.take (k+1))=stay now (a.take k) ++ if now<a[k].d then [a[k]] else []:=by
  rw [List.take_succ_eq_append_getElem hk]
  simp only [stay,List.filter_append]
  by_cases h:now<a[k].d <;> simp [h]

theorem landM_snoc (m:Mt) (now:Int) (a:List Lo) (k:Nat) (hk:k<a.length):landM m now (a.take (k+1))=if now<a[k].d then landM m now (a.take k) else
    (landM m now (a.take k)).setPc a[k].t.toNat a[k].h.toNat a[k].g.toNat ((landM m now (a.take k)).pc a[k].t.toNat a[k].h.toNat a[k].g.toNat+a[k].n):=by
  rw [List.take_succ_eq_append_getElem hk,landM_append]
  by_cases h:now<a[k].d <;> simp [landM,h]

theorem stay_length (now:Int) (a:List Lo):(stay now a).length≤a.length:=List.length_filter_le _ _

theorem landM_pc (m:Mt) (N now:Int) (a:List Lo) (hb:∀ l,l∈a→0≤l.n∧l.n≤10000) (hp:∀ t h g,t<m.T→h<m.H→g<m.G→0≤m.pc t h g∧m.pc t h g≤N) :
    ∀ t h g,t<m.T→h<m.H→g<m.G→0≤(landM m now a).pc t h g∧(landM m now a).pc t h g≤N+10000 * a.length:=by
  induction a generalizing m N with
  | nil=>intro t h g ht hh hg;have:=hp t h g ht hh hg;simp [landM];omega
  | cons x a ih =>
    intro t h g ht hh hg
    have hx:=hb x (by simp)
    simp only [landM]
    by_cases hd:now<x.d
    · have:=ih m N (fun l hl=>hb l (by simp [hl])) hp t h g ht hh hg
      simp only [hd,if_true,List.length_cons]
      omega
    · have:=ih (m.setPc x.t.toNat x.h.toNat x.g.toNat (m.pc x.t.toNat x.h.toNat x.g.toNat+x.n)) (N+10000) (fun l hl=>hb l (by simp [hl])) (fun t' h' g' ht' hh' hg'=>by
        simp only [Mt.setPc] at ht' hh' hg' ⊢
        have h1:=hp t' h' g' ht' hh' hg'
        split
        · rename_i he
          obtain ⟨rfl,rfl,rfl⟩:=he
          omega
        · omega) t h g ht hh hg
      simp only [hd,if_false,List.length_cons]
      omega

theorem landM_tm (m:Mt) (x now:Int) (a:List Lo):landM { m with tm:=x } now a={ landM m now a with tm:=x }:=by
  induction a generalizing m with
  | nil=>rfl
  | cons l a ih =>
    simp only [landM]
    by_cases h:now<l.d
    · simp only [h,if_true,ih]
    · simp only [h,if_false]
      exact ih (m.setPc l.t.toNat l.h.toNat l.g.toNat (m.pc l.t.toNat l.h.toNat l.g.toNat+l.n))

theorem loCells_set (a:List Lo) (i:Nat) (l:Lo) (hi:i<a.length) :
    loCells (a.set i l)=((((((loCells a).set (i * 5) (.int .i64 l.t)).set (i * 5+1) (.int .i64 l.h)).set (i * 5+2) (.int .i64 l.g)).set (i * 5+3) (.int .i64 l.n)).set (i * 5+4) (.int .i64 l.d)):=by
  induction a generalizing i with
  | nil=>simp at hi
  | cons x a ih =>
    cases i with
    | zero=>simp [loCells,Lo.cells]
    | succ i =>
      have:=ih i (by simpa using hi)
      have e:(i+1) * 5=i * 5+5:=by omega
      rw [List.set_cons_succ,show loCells (x :: a.set i l)=x.cells ++ loCells (a.set i l) from rfl,show loCells (x :: a)=x.cells ++ loCells a from rfl,this,e]
      generalize loCells a=z
      simp [Lo.cells,List.set_cons_succ]

theorem PRep.rowLd {w w':World} {L:PL} {m:Mt} (R:PRep w L m) (k:Kep (fun b=>L.lv.ownBlock=some b) w w') (ls:List Lo) (hr:w'.ownsRow 0 139 5 L.lv ls.length (loCells ls)):PRep w' L { m with ld:=ls }:=by
  have ab:∀ {j:Jx} {b:Nat},L.F m j=some b→j ≠ .lv→L.lv.ownBlock≠some b:=fun h hj q=>hj (R.inj _ .lv _ h q)
  have a1:L.lv.ownBlock≠some L.x:=ab (j:=.x) rfl (by simp)
  have a2:L.lv.ownBlock≠some L.ab:=ab (j:=.ab) rfl (by simp)
  have a3:∀ i,i<m.H→L.lv.ownBlock≠some (L.gb i):=fun i hi=>ab (j:=.gb i) (by simp [PL.F,hi]) (by simp)
  have a4:∀ i g s,at3 m i g s→L.lv.ownBlock≠some (L.qb i g s):=fun i g s q=>ab (j:=.qb i g s) (by simp [PL.F,q]) (by simp)
  have a5:∀ i g s b,at3 m i g s→(L.qv i g s).ownBlock=some b→L.lv.ownBlock≠some b:=fun i g s b q e=>ab (j:=.qv i g s) (by simp [PL.F,q,e]) (by simp)
  have a6:∀ i g s n b,at3 m i g s→(L.ob i g s)[n]? = some b→L.lv.ownBlock≠some b:=fun i g s n b q e=>ab (j:=.ob i g s n) (by simp [PL.F,q,e]) (by simp)
  have a7:L.lv.ownBlock≠some L.rb:=fun e=>R.nrb ⟨.lv,e⟩
  have a8:L.lv.ownBlock≠some L.bb:=fun e=>R.nbb ⟨.lv,e⟩
  exact ⟨R.cG.kep k a1,R.cR.kep k a1,R.cA.kep k a1,R.cL.kep k a1,R.cB.kep k a1,R.cN.kep k a1,R.cH.kep k a1,R.cTm.kep k a1,fun i hi=>k.cell (R.rt i hi) a7,fun t ht=>(R.mo t ht).kep k a2,fun t i g ht hi hg=>(R.pc t i g ht hi hg).kep k a2,
    hr,fun i hi=>k.cell (R.bks i hi) a8,fun i g s q=>(R.sd i g s q).kep k (a3 i q.1),fun i g hi hg=>(R.la i g hi hg).kep k (a3 i hi),fun i g hi hg=>(R.pi i g hi hg).kep k (a3 i hi),fun i g hi hg=>(R.am i g hi hg).kep k (a3 i hi),
    fun i g s q=>k.cell (R.q0 i g s q) (a4 i g s q),fun i g s q=>(R.q1 i g s q).kep k (a4 i g s q),fun i g s q=>ownsRow_kep (R.qr i g s q) k (fun b e=>a5 i g s b q e),R.ln,fun i g s n b o q e1 e2 j v e3=>(R.oc i g s n b o q e1 e2 j v e3).kep k (a6 i g s n b q e1),fun i g s n b q e=>(R.oz i g s n b q e).kep k (a6 i g s n b q e),R.inj,R.nrb,R.nbb⟩

theorem PRep.setX {w w':World} {L:PL} {m:Mt} (R:PRep w L m) (k:Kep (fun b=>b=L.x) w w') (nu ho tm:Int) (h0:∀ o v,o<5→Own w ⟨L.x,o,none⟩ v→Own w' ⟨L.x,o,none⟩ v) (h5:Own w' ⟨L.x,5,none⟩ (.int .i64 nu)) (h6:Own w' ⟨L.x,6,none⟩ (.int .i64 ho)) (h7:Own w' ⟨L.x,7,none⟩ (.int .i64 tm)) :
    PRep w' L { m with nu:=nu,ho:=ho,tm:=tm }:=by
  have ab:∀ {j:Jx} {b:Nat},L.F m j=some b→j ≠ .x→b≠L.x:=fun h hj=>R.ne h (show L.F m .x=some L.x from rfl) hj
  have a2:L.ab≠L.x:=ab (j:=.ab) rfl (by simp)
  have a3:∀ i,i<m.H→L.gb i≠L.x:=fun i hi=>ab (j:=.gb i) (by simp [PL.F,hi]) (by simp)
  have a4:∀ i g s,at3 m i g s→L.qb i g s≠L.x:=fun i g s q=>ab (j:=.qb i g s) (by simp [PL.F,q]) (by simp)
  have a5:∀ i g s b,at3 m i g s→(L.qv i g s).ownBlock=some b→b≠L.x:=fun i g s b q e=>ab (j:=.qv i g s) (by simp [PL.F,q,e]) (by simp)
  have a6:∀ i g s n b,at3 m i g s→(L.ob i g s)[n]? = some b→b≠L.x:=fun i g s n b q e=>ab (j:=.ob i g s n) (by simp [PL.F,q,e]) (by simp)
  have a7:L.rb≠L.x:=fun e=>R.nrb ⟨.x,by rw [e];rfl⟩
  have a8:L.bb≠L.x:=fun e=>R.nbb ⟨.x,by rw [e];rfl⟩
  exact ⟨h0 _ _ (by decide) R.cG,h0 _ _ (by decide) R.cR,h0 _ _ (by decide) R.cA,h0 _ _ (by decide) R.cL,h0 _ _ (by decide) R.cB,h5,h6,h7,fun i hi=>k.cell (R.rt i hi) a7,fun t ht=>(R.mo t ht).kep k a2,fun t i g ht hi hg=>(R.pc t i g ht hi hg).kep k a2,
    ownsRow_kep R.ld k (fun b hb=>ab (j:=.lv) hb (by simp)),fun i hi=>k.cell (R.bks i hi) a8,fun i g s q=>(R.sd i g s q).kep k (a3 i q.1),fun i g hi hg=>(R.la i g hi hg).kep k (a3 i hi),fun i g hi hg=>(R.pi i g hi hg).kep k (a3 i hi),fun i g hi hg=>(R.am i g hi hg).kep k (a3 i hi),
    fun i g s q=>k.cell (R.q0 i g s q) (a4 i g s q),fun i g s q=>(R.q1 i g s q).kep k (a4 i g s q),fun i g s q=>ownsRow_kep (R.qr i g s q) k (fun b e=>a5 i g s b q e),R.ln,fun i g s n b o q e1 e2 j v e3=>(R.oc i g s n b o q e1 e2 j v e3).kep k (a6 i g s n b q e1),fun i g s n b q e=>(R.oz i g s n b q e).kep k (a6 i g s n b q e),R.inj,R.nrb,R.nbb⟩

theorem PRep.setTm {w:World} {L:PL} {m:Mt} (R:PRep w L m) (x:Int):PRep (w.setCell ⟨L.x,7,none⟩ (.int .i64 x)) L { m with tm:=x }:=by
  have oc:∀ {o:Nat} {v:Value},o≠7→Own w ⟨L.x,o,none⟩ v→Own (w.setCell ⟨L.x,7,none⟩ (.int .i64 x)) ⟨L.x,o,none⟩ v:=fun ho hv=>hv.set_other (by intro q;injection q with _ q _;exact ho q) rfl rfl _
  exact R.setX ((Kep.refl (fun b=>b=L.x) w).setCell (p:=⟨L.x,7,none⟩) (.inl rfl) _) m.nu m.ho x (fun o v ho hv=>oc (by omega) hv) (oc (by decide) R.cN) (oc (by decide) R.cH) (R.cTm.set rfl _)

theorem kep_setCells {a w:World} {S:Nat→Prop} {b:Nat} (h:Kep S a w) (hb:S b∨a.heap.size≤b) (o:Nat) (vs:List Value):Kep S a (w.setCells b o vs):=by
  induction vs generalizing w o with
  | nil=>exact h
  | cons v r ih=>exact ih (h.setCell (p:=⟨b,o,none⟩) hb v) (o+1)

theorem PRep.setOne {w:World} {L:PL} {m:Mt} {lb cap:Nat} (h:PRep w L m) (hv:L.lv = .slice (some ⟨lb,0,none⟩) m.ld.length cap) (s:Nat) (hs:s<m.ld.length) (l:Lo) :
    PRep (w.setCells lb (s * 5) l.cells) L { m with ld:=m.ld.set s l }:=by
  refine h.rowLd (kep_setCells (Kep.refl _ _) (.inl (by rw [hv];rfl)) _ _) _ ?_
  have r:=h.ld
  rw [hv] at r ⊢
  have:=((((((r.stored (s * 5) (.int .i64 l.t)).1.stored (s * 5+1) (.int .i64 l.h)).1.stored (s * 5+2) (.int .i64 l.g)).1.stored (s * 5+3) (.int .i64 l.n)).1.stored (s * 5+4) (.int .i64 l.d)).1)
  rw [← loCells_set m.ld s l hs] at this
  simp only [List.length_set]
  exact this

theorem set_take {α:Type} (ls:List α) (s:Nat) (l:α) (hs:s<ls.length):(ls.set s l).take (s+1)=ls.take s ++ [l]:=by
  induction ls generalizing s with
  | nil=>simp at hs
  | cons x r ih =>
    cases s with
    | zero=>simp
    | succ s=>simp only [List.set_cons_succ,List.take_succ_cons,List.cons_append];rw [ih s (by simpa using hs)]

theorem ownsRow_first {w:World} {e:TypeId} {lb cap n:Nat} {ls:List Lo} (h:w.ownsRow 0 e 5 (.slice (some ⟨lb,0,none⟩) n cap) n (loCells ls)) (hl:ls.length=n) (s:Nat) (hs:s≤n) :
    w.ownsRow 0 e 5 (.slice (some ⟨lb,0,none⟩) s cap) (ls.take s).length (loCells (ls.take s)):=by
  have hts:(ls.take s).length=s:=by simp;omega
  rw [hts]
  refine ⟨by rw [loCells_length,hts],?_⟩
  rcases h.2 with ⟨h1,_⟩ | ⟨g,c,cur,h1,hb,hg,hn,hm,hc,ht⟩
  · simp at h1
  · simp only [Value.slice.injEq,Option.some.injEq,Addr.mk.injEq,and_true,true_and] at h1
    obtain ⟨rfl,rfl⟩:=h1
    refine .inr ⟨lb,cap,cur,rfl,Nat.zero_le _,hg,by omega,hm,hc,?_⟩
    have e1:cur.toList.take (s * 5)=(cur.toList.take (n * 5)).take (s * 5):=by rw [List.take_take];congr 1;omega
    rw [e1,ht]
    have e2:loCells ls=loCells (ls.take s) ++ loCells (ls.drop s):=by rw [← loCells_append,List.take_append_drop]
    rw [e2]
    have e3:(loCells (ls.take s)).length=s * 5:=by rw [loCells_length,hts]
    rw [← e3,List.take_left']
    rfl

set_option maxRecDepth 100000 in
set_option maxHeartbeats 1000000 in
theorem land_any (w:World) (L:PL) (m:Mt) (N:Int) (R:PRep w L m) (ok:m.Ok N) (hN:N≤900000000000) :
    Calls Tryz.prog 92 #[.pointer (some ⟨L.x,0,none⟩)] w fun e w'=>e = .returned (.tuple #[])∧PPost w L m { landM m m.tm m.ld with ld:=stay m.tm m.ld } w':=by
  rcases R.ld.2 with ⟨hv,hn⟩ | ⟨lb,cap,cur,hv,hrest⟩
  · have c3:=R.cL
    rw [hv] at c3
    obtain ⟨c3,f3⟩:=c3
    have hm:m.ld=[]:=List.eq_nil_of_length_eq_zero hn
    have HM:Hid (PPost w L m { landM m m.tm m.ld with ld:=stay m.tm m.ld } (w.setCell ⟨L.x,3,none⟩ (.slice none 0 0))):=hide (by
      rw [hm]
      refine ⟨(Kep.refl (L.S m) _).setCell (p:=⟨L.x,3,none⟩) (.inl ⟨.x,rfl⟩) _,{ L with lv:=.slice none 0 0 },⟨rfl,rfl,rfl⟩,?_,R.setLd (R.lt ok.T1 ok.G1) (R.rblt ok.H1) (Kep.refl _ _) [] _ (World.ownsRow_nil _ _ _ _) (by simp [Value.ownBlock])⟩
      intro b hb
      rcases S_lv (m:=m) rfl rfl hb with q | q
      · simp [Value.ownBlock] at q
      · exact .inl q)
    clear hm hv hn R ok
    go_enter Tryz.func92,Tryz.ntmps92
    go_wp2
    go_loop [2,15] (fun l i=>l = .slice none 0 0∧i = .int .i64 0) (fun _ _=>0)
    case atStart=>exact ⟨rfl,rfl⟩
    case round =>
      obtain ⟨rfl,rfl⟩:=hrel
      go_wp2
      go_end0
      exact ⟨rfl,HM.out⟩
  · have c3:=R.cL.cell
    rw [hv] at c3
    obtain ⟨tm0,tm1⟩:=ok.tm
    have HLV:=hide hv
    have hcap:m.ld.length≤cap:=hrest.2.2.1
    have hmax:cap≤maxLen:=hrest.2.2.2.1
    clear hv hrest
    go_enter Tryz.func92,Tryz.ntmps92
    go_wp2
    clear c3
    go_loopw [2,15] (fun l i wr=>∃ (k:Nat) (ls:List Lo),k≤m.ld.length∧i = .int .i64 k∧ls.length=m.ld.length∧(stay m.tm (m.ld.take k)).length≤k∧ls.take (stay m.tm (m.ld.take k)).length=stay m.tm (m.ld.take k)∧(∀ j,k≤j→ls[j]? = m.ld[j]?) ∧
      l = .slice (some ⟨lb,0,none⟩) (stay m.tm (m.ld.take k)).length cap∧Kep (L.S m) w wr∧PRep wr L { landM m m.tm (m.ld.take k) with ld:=ls }) (fun _ i _=>m.ld.length - (intOf i).toNat)
    case atStart=>exact ⟨0,m.ld,Nat.zero_le _,rfl,rfl,by simp [stay],by simp [stay],fun _ _=>rfl,by simp [stay],Kep.refl _ _,by simpa [landM] using R⟩
    case round =>
      obtain ⟨k,ls,hk,rfl,hll,hsk,htake,hsame,rfl,hkp,Rr⟩:=hrel
      obtain ⟨s1,s2,s3,s4,s5,s6⟩:=landM_same m m.tm (m.ld.take k)
      by_cases hlt:k<m.ld.length
      · have HS:=hide (stay_snoc m.tm m.ld k hlt)
        have HL:=hide (landM_snoc m m.tm m.ld k hlt)
        have HP:=hide (landM_pc m N m.tm (m.ld.take k) (fun l hl=>by have:=(ok.ld l (List.mem_of_mem_take hl)).2.2.2.1;omega) ok.pc)
        have lk:=ok.ld m.ld[k] (by simp)
        have l20:=ok.l20
        have tkl:(m.ld.take k).length=k:=by simp;omega
        rw [tkl] at HP
        have hget:ls[k]? = some m.ld[k]:=by rw [hsame k (Nat.le_refl _)];simp
        generalize landM m m.tm (m.ld.take k)=M at *
        generalize stay m.tm (m.ld.take k)=ss at *
        have rl:wr.ownsRow 0 139 5 (.slice (some ⟨lb,0,none⟩) ls.length cap) ls.length (loCells ls):=by
          have:=Rr.ld
          rw [HLV.out,← hll] at this
          exact this
        have b4:wr.cell? ⟨L.x,7,none⟩=some (.int .i64 m.tm):=s6 ▸ Rr.cTm.cell
        obtain ⟨lb',cap',hv,hcl⟩:=load_cells rl k (by omega)
        have q0:wr.cell? ⟨lb',k * 5,none⟩=_:=hcl 0 _ rfl
        have q1:=hcl 1 _ rfl
        have q2:=hcl 2 _ rfl
        have q3:=hcl 3 _ rfl
        have q4:=hcl 4 _ rfl
        clear hcl
        simp only [Value.slice.injEq,Option.some.injEq,Addr.mk.injEq,and_true,true_and] at hv
        obtain ⟨rfl,rfl⟩:=hv
        have hgk:ls[k]=m.ld[k]:=by have:=List.getElem?_eq_getElem (l:=ls) (i:=k) (by omega);rw [this] at hget;simpa using hget
        rw [hgk] at q0 q1 q2 q3 q4
        clear hget hgk
        generalize m.ld[k]=l at *
        have lx:L.x<wr.heap.size:=World.block_lt_of_cell? wr _ b4
        have ca:∀ o,(wr.alloc o).cell? ⟨L.x,7,none⟩=some (.int .i64 m.tm):=fun o=>cell_later (((Below.refl _ wr)).alloc (Nat.le_refl _) o) b4
        obtain ⟨⟨l1,l1'⟩,⟨l2,l2'⟩,⟨l3,l3'⟩,⟨l4,l4'⟩,⟨l5,l5'⟩⟩:=lk
        have H1:=hide s1;have H2:=hide s2;have H3:=hide s3;have H4:=hide s4;have H5:=hide s5;have H6:=hide s6
        have HT:=hide htake;have HSM:=hide hsame;have HLL:=hide hll
        have HRL:=hide rl
        have HR1:Hid (wr.ownsRow 0 139 5 (.slice (some ⟨lb,0,none⟩) ss.length cap) ss.length (loCells ss)):=hide (by
          have:=ownsRow_first rl rfl ss.length (by omega)
          rw [htake] at this
          exact this)
        clear s1 s2 s3 s4 s5 s6 htake hsame hll rl tkl
        by_cases hd:m.tm<l.d
        · go_wp2
          go_quiet (fail)
          obtain ⟨i0,hi0,hz0,hz1,hz2⟩:=info_parts infoLoad
          go_wp2_with (at_builtin;(refine wpList_append_arg _ rfl _ _ _ rfl 139 i0 _ 5 40 Tryz.underlying89 hi0 hz0 hz1 hz2 rfl (by omega) lb 0 ss.length cap (loCells ss) rfl (loCells_length ss) ?holds ⟨wr.heap.size+1,0,none⟩ 1 1 l.cells rfl rfl (by exact news_of_last' #[_,_,_,_,_] 139 (by simp)) (Lo.oneCell' _) ?hspare (by simp only [maxLen];omega) (by omega) ?hroom ?hgrow))
          case holds =>
            intro j u hu
            have hj:j<ss.length * 5:=by have:=(List.getElem?_eq_some_iff.1 hu).1;rw [loCells_length] at this;exact this
            have r2:=ownsRow_kep (S:=non) HR1.out ((((Kep.refl _ _).alloc (Obj.cells #[.int .i64 l.t,.int .i64 l.h,.int .i64 l.g,.int .i64 l.n,.int .i64 l.d] 139)).drewN nq).alloc (Obj.cells #[.int .i64 l.t,.int .i64 l.h,.int .i64 l.g,.int .i64 l.n,.int .i64 l.d] 139)) (fun _ _ q=>q)
            rw [Nat.zero_add,r2.cellAt j hj]
            exact hu
          case hspare =>
            intro _ j hj
            have hj5:j<5:=hj
            have r2:=ownsRow_kep (S:=non) HRL.out ((((Kep.refl _ _).alloc (Obj.cells #[.int .i64 l.t,.int .i64 l.h,.int .i64 l.g,.int .i64 l.n,.int .i64 l.d] 139)).drewN nq).alloc (Obj.cells #[.int .i64 l.t,.int .i64 l.h,.int .i64 l.g,.int .i64 l.n,.int .i64 l.d] 139)) (fun _ _ q=>q)
            have hl:=HLL.out
            have hin:ss.length * 5+j<ls.length * 5:=by omega
            rw [Nat.zero_add]
            refine ⟨?_,r2.frozenAt _⟩
            rw [r2.cellAt _ hin,List.getElem?_eq_getElem (by rw [loCells_length];exact hin)]
            rfl
          case hgrow=>intro h;omega
          case hroom =>
            intro _
            go_wp2
            have hl:=HLL.out
            have kw:Kep non wr (((wr.alloc (Obj.cells #[.int .i64 l.t,.int .i64 l.h,.int .i64 l.g,.int .i64 l.n,.int .i64 l.d] 139)).drewN nq).alloc (Obj.cells #[.int .i64 l.t,.int .i64 l.h,.int .i64 l.g,.int .i64 l.n,.int .i64 l.d] 139)):=((Kep.refl _ _).alloc _).drewN _ |>.alloc _
            have P1:=(Rr.later kw).setOne (lb:=lb) (cap:=cap) (by rw [HLV.out,← hl]) ss.length (by simp only [];omega) l
            have e1:stay m.tm (m.ld.take (k+1))=ss ++ [l]:=by rw [HS.out,if_pos hd]
            have e2:landM m m.tm (m.ld.take (k+1))=M:=by rw [HL.out,if_pos hd]
            have hlb:L.S m lb:=⟨.lv,by rw [show L.F m .lv=L.lv.ownBlock from rfl,HLV.out];rfl⟩
            refine ⟨⟨k+1,ls.set ss.length l,by omega,by go_num,by simp [hl],?_,?_,?_,?_,kep_setCells (hkp.trans kw.none) (.inl hlb) _ _,?_⟩,by simp [intOf];omega⟩
            · rw [e1];simp;omega
            · rw [e1]
              have:=set_take ls ss.length l (by omega)
              rw [HT.out] at this
              simpa using this
            · intro j hj
              rw [List.getElem?_set_ne (by omega)]
              exact HSM.out j (by omega)
            · rw [e1];simp
            · rw [e2];exact P1
        · obtain ⟨lt,lh,lg,ln,ldd⟩:=l
          simp only [] at l1 l1' l2 l2' l3 l3' l4 l4' l5 l5' hd q0 q1 q2 q3 q4
          obtain ⟨a,rfl⟩:=Int.eq_ofNat_of_zero_le l1
          obtain ⟨b,rfl⟩:=Int.eq_ofNat_of_zero_le l2
          obtain ⟨c,rfl⟩:=Int.eq_ofNat_of_zero_le l3
          have h4:=ok.H4
          have g4:=ok.G4
          have ha:a<M.T:=by rw [H1.out];omega
          have hb:b<4:=by omega
          have hc:c<4:=by omega
          obtain ⟨bp0,bp1⟩:=HP.out a b c (by omega) (by omega) (by omega)
          have HRr:=hide Rr
          have c2:=Rr.cA
          have cm:=Rr.pc a b c ha hb hc
          simp only [] at c2 cm
          have c2a:∀ o,(wr.alloc o).cell? ⟨L.x,2,none⟩=some (.slice (some ⟨L.ab,0,none⟩) M.T M.T):=fun o=>(c2.kep ((Kep.refl non _).alloc o) (fun q=>q)).cell
          have cma:∀ o,(wr.alloc o).cell? ⟨L.ab,a * 17+1+b * 4+c,none⟩=some (.int .i64 (M.pc a b c)):=fun o=>(cm.kep ((Kep.refl non _).alloc o) (fun q=>q)).cell
          have cfa:∀ o,(wr.alloc o).frozen? ⟨L.ab,a * 17+1+b * 4+c,none⟩=false:=fun o=>(cm.kep ((Kep.refl non _).alloc o) (fun q=>q)).free
          have lab:L.ab<wr.heap.size:=cm.lt
          clear Rr c2 cm ok R
          go_wp2
          go_quiet (fail)
          go_wp2
          go_region
          all_goals go_wp2
          have e1:stay m.tm (m.ld.take (k+1))=ss:=by rw [HS.out,if_neg (Int.not_lt.2 hd),List.append_nil]
          have e2:landM m m.tm (m.ld.take (k+1))=M.setPc a b c (M.pc a b c+ln):=by rw [HL.out,if_neg (Int.not_lt.2 hd)];rfl
          refine ⟨⟨k+1,ls,by omega,by go_num,HLL.out,?_,?_,?_,?_,?_,?_⟩,by simp [intOf];omega⟩
          · rw [e1];omega
          · rw [e1];exact HT.out
          · intro j hj;exact HSM.out j (by omega)
          · rw [e1]
          · exact ((hkp.alloc _).drewN _).setCell (p:=⟨L.ab,a * 17+1+b * 4+c,none⟩) (.inl ⟨.ab,rfl⟩) _
          · rw [e2]
            exact (HRr.out.later (((Kep.refl _ _).alloc _).drewN _)).setPc a b c ha hb hc _
      · have e1:k=m.ld.length:=by omega
        subst e1
        obtain ⟨b3,f3⟩:=Rr.cL
        rw [HLV.out] at b3
        rw [List.take_of_length_le (Nat.le_refl _)] at *
        have HRr:=hide Rr
        have HT:=hide htake
        have hll':=hide hll
        have H1:=hide s1;have H2:=hide s2;have H3:=hide s3
        clear Rr s1 s2 s3 s4 s5 s6 hsame htake hll
        go_wp2
        go_end0
        have r1:=HRr.out.ld
        simp only [] at r1
        rw [HLV.out,hll'.out] at r1
        have r2:=ownsRow_first r1 hll'.out (stay m.tm m.ld).length hsk
        rw [HT.out] at r2
        refine ⟨rfl,hkp.setCell (p:=⟨L.x,3,none⟩) (.inl ⟨.x,rfl⟩) _,{ L with lv:=.slice (some ⟨lb,0,none⟩) (stay m.tm m.ld).length cap },⟨rfl,rfl,rfl⟩,?_,?_⟩
        · intro b hb
          rcases S_lv (m:=m) (by exact H3.out) (by exact H2.out) hb with q | q
          · exact .inl ⟨.lv,by rw [show L.F m .lv=L.lv.ownBlock from rfl,HLV.out];exact q⟩
          · exact .inl q
        · exact HRr.out.setLd (HRr.out.lt (by rw [show _=m.T from H1.out];exact ok.T1) (by rw [show _=m.G from H2.out];exact ok.G1)) (HRr.out.rblt (by rw [show _=m.H from H3.out];exact ok.H1)) (Kep.refl _ wr) (stay m.tm m.ld) _ r2 (fun b hb=>.inl (by rw [HLV.out];exact hb))

theorem Mt.Ok.later {m:Mt} {N:Int} (ok:m.Ok N) (h:m.tm<1000000000):({ m with tm:=m.tm+1 }:Mt).Ok N :=
  ⟨ok.bN,ok.T1,ok.T8,ok.G1,ok.G4,ok.H1,ok.H4,ok.rt,ok.mo,ok.pc,ok.l20,ok.ld,ok.a60,fun h g s o h1 h2 h3 h4=>by have k:=ok.od h g s o h1 h2 h3 h4;exact ⟨k.id,k.t,k.h,k.g,k.s,k.p,k.q,k.w⟩,ok.nu,ok.ho,by have:=ok.tm;simp only [];omega⟩

set_option maxHeartbeats 400000 in
theorem progTick_any (w:World) (L:PL) (m:Mt) (N:Int) (R:PRep w L m) (ok:m.Ok N) (hN:N≤900000000000) :
    Calls Tryz.prog 40 #[.pointer (some ⟨L.x,0,none⟩)] w fun e w'=>e = .returned (.int .i64 (tickE m))∧PPost w L m (tickM m) w':=by
  obtain ⟨c4,f4⟩:=R.cTm
  obtain ⟨tm0,tm1⟩:=ok.tm
  by_cases hT:1000000000≤m.tm
  · have e:Hid (tickE m=8):=hide (by simp [tickE,hT])
    go_enter Tryz.func40,Tryz.ntmps40
    go_wp2
    go_ret
    exact ⟨ret_int e.out.symm,by rw [tickM,e.out];exact .same R (Kep.refl _ _)⟩
  · have e:Hid (tickE m=0):=hide (by simp [tickE,hT])
    have R0:=R.setTm (m.tm+1)
    have K0:Kep (L.S m) w (w.setCell ⟨L.x,7,none⟩ (.int .i64 (m.tm+1))):=(Kep.refl (L.S m) _).setCell (p:=⟨L.x,7,none⟩) (.inl ⟨.x,rfl⟩) _
    have HQ:=hide (land_any _ L _ N R0 (ok.later (by omega)) hN)
    have HT:=hide (landM_tm m (m.tm+1) (m.tm+1) m.ld)
    clear R0
    go_enter Tryz.func40,Tryz.ntmps40
    go_wp2_with fail
    refine HQ.out.mono ?_
    rintro e w1 ⟨rfl,P⟩
    go_wp2
    go_ret
    refine ⟨ret_int e.out.symm,K0.trans P.kp,?_⟩
    obtain ⟨L',h1,h2,h3⟩:=P.rep
    have sm:=landM_same { m with tm:=m.tm+1 } (m.tm+1) m.ld
    have tm:(tickM m).H=m.H∧(tickM m).G=m.G:=by
      have q:=landM_same m (m.tm+1) m.ld
      rw [tickM,if_pos e.out]
      exact ⟨q.2.2.1,q.2.1⟩
    refine ⟨L',h1,fun b hb=>(h2 b (S_eq (tm.1.trans sm.2.2.1.symm) (tm.2.trans sm.2.1.symm) hb)).imp id (fun h=>by simpa using h),?_⟩
    rw [HT.out] at h3
    rw [tickM,if_pos e.out]
    exact h3

theorem progShip_any (w:World) (L:PL) (m:Mt) (N t f o g n:Int) (R:PRep w L m) (ok:m.Ok N) :
    Calls Tryz.prog 38 #[.pointer (some ⟨L.x,0,none⟩),.int .i64 t,.int .i64 f,.int .i64 o,.int .i64 g,.int .i64 n] w fun e w'=>e = .returned (.int .i64 (shipE m t f o g n))∧PPost w L m (shipM m t f o g n) w':=by
  by_cases hb:shipGood m t f o g n
  · have hb':=hb
    obtain ⟨⟨t0,_⟩,⟨o0,_⟩,_,hl⟩:=hb'
    obtain ⟨_,⟨f0,_⟩,⟨g0,_⟩,_⟩:=lotsE_zero hl
    obtain ⟨t,rfl⟩:=Int.eq_ofNat_of_zero_le t0
    obtain ⟨f,rfl⟩:=Int.eq_ofNat_of_zero_le f0
    obtain ⟨g,rfl⟩:=Int.eq_ofNat_of_zero_le g0
    obtain ⟨o,rfl⟩:=Int.eq_ofNat_of_zero_le o0
    exact progShip_good w L m N t f o g n R ok hb
  · exact progShip_bad w L m N t f o g n R ok hb
end

section
open Go.RowKit Go.Sort

theorem first_none (q c:Nat) (w:World) (a:Option Addr) (h1:w.cell? ⟨q,1,none⟩=some (.slice a 0 c)) :
    Calls Tryz.prog 98 #[.pointer (some ⟨q,0,none⟩)] w fun e w'=>e = .returned (.tuple #[.pointer none,.bool false])∧w'=w:=by
  go_enter Tryz.func98,Tryz.ntmps98
  go_wp2
  go_ret2
  exact ⟨rfl,rfl⟩

theorem first_some (q b n c o:Nat) (w:World) (hn:1≤n) (h1:w.cell? ⟨q,1,none⟩=some (.slice (some ⟨b,0,none⟩) n c)) (h2:w.cell? ⟨b,0,none⟩=some (.pointer (some ⟨o,0,none⟩))) :
    Calls Tryz.prog 98 #[.pointer (some ⟨q,0,none⟩)] w fun e w'=>e = .returned (.tuple #[.pointer (some ⟨o,0,none⟩),.bool true])∧w'=w:=by
  have h0:((n:Int) == 0)=false:=beq_eq_false_iff_ne.2 (by omega)
  have h3:(0:Int)<(n:Int):=by omega
  go_enter Tryz.func98,Tryz.ntmps98
  go_wp2
  go_ret2
  exact ⟨rfl,rfl⟩

theorem other_buy (w:World):Calls Tryz.prog 97 #[.int .i64 0] w fun e w'=>e = .returned (.int .i64 1)∧w'=w:=by
  go_enter Tryz.func97,Tryz.ntmps97
  go_wp2
  go_ret
  exact ⟨rfl,rfl⟩
theorem other_sell (w:World):Calls Tryz.prog 97 #[.int .i64 1] w fun e w'=>e = .returned (.int .i64 0)∧w'=w:=by
  go_enter Tryz.func97,Tryz.ntmps97
  go_wp2
  go_ret
  exact ⟨rfl,rfl⟩

def Mt.fee (m:Mt) (h:Nat) (a:Int):Int:=a * m.rt h / 10000

theorem fee_any (w:World) (L:PL) (m:Mt) (N:Int) (R:PRep w L m) (ok:m.Ok N) (h:Nat) (a:Int) (hh:h<m.H) (ha:0≤a) (ha2:a≤1000000000) :
    Calls Tryz.prog 123 #[.pointer (some ⟨L.x,0,none⟩),.int .i64 h,.int .i64 a] w fun e w'=>e = .returned (.int .i64 (m.fee h a))∧w'=w:=by
  have c1:=R.cR.cell
  have cr:=R.rt h hh
  have hh':(h:Int)<(m.H:Int):=by omega
  have br:=ok.rt h hh
  have bm:=mul_le' ha ha2 br.1 br.2
  have e:Hid (a * m.rt h / 10000=m.fee h a):=hide rfl
  clear R ok
  generalize m.rt h=r at *
  go_enter Tryz.func123,Tryz.ntmps123
  go_wp2
  go_ret
  exact ⟨ret_int e.out,rfl⟩

def pfits (a b:Od):Bool:=if a.s=0 then decide (b.p≤a.p) else decide (a.p≤b.p)

theorem pricesFit_any (w:World) (x y:Nat) (a b:Od) (ha:OdAt w x a) (hb:OdAt w y b) :
    Calls Tryz.prog 99 #[.pointer (some ⟨x,0,none⟩),.pointer (some ⟨y,0,none⟩)] w fun e w'=>e = .returned (.bool (pfits a b))∧∃ n,w'=w.drewN n:=by
  have a4:=(ha 4 _ rfl).cell
  have a5:=(ha 5 _ rfl).cell
  have b5:=(hb 5 _ rfl).cell
  have HE:Hid (pfits a b=if a.s=0 then decide (b.p≤a.p) else decide (a.p≤b.p)):=hide rfl
  clear ha hb
  by_cases h:a.s=0
  · go_enter Tryz.func99,Tryz.ntmps99
    go_wp2
    go_quiet (fail)
    go_wp2
    go_ret
    exact ⟨by rw [HE.out,if_pos h];simp,_,rfl⟩
  · go_enter Tryz.func99,Tryz.ntmps99
    go_wp2
    go_quiet (fail)
    go_wp2
    go_ret
    exact ⟨by rw [HE.out,if_neg h];simp,_,rfl⟩

def aheadB (s:Nat) (a b:Od):Bool:=if s=0 then decide (b.p<a.p∨a.p=b.p∧a.id<b.id) else decide (a.p<b.p∨a.p=b.p∧a.id<b.id)

set_option maxHeartbeats 400000 in
theorem aheadBuy_any (w:World) (x y:Nat) (a b:Od) (ha:OdAt w x a) (hb:OdAt w y b) :
    Calls Tryz.prog 120 #[.pointer (some ⟨x,0,none⟩),.pointer (some ⟨y,0,none⟩)] w fun e w'=>e = .returned (.bool (aheadB 0 a b))∧∃ n,w'=w.drewN n:=by
  have a0:=(ha 0 _ rfl).cell
  have a5:=(ha 5 _ rfl).cell
  have b0:=(hb 0 _ rfl).cell
  have b5:=(hb 5 _ rfl).cell
  clear ha hb
  by_cases h1:b.p<a.p
  · have h1':decide (b.p<a.p)=true:=decide_eq_true h1
    have e:Hid (aheadB 0 a b=true):=hide (by simp [aheadB,h1])
    go_enter Tryz.func120,Tryz.ntmps120
    go_wp2
    go_quiet (fail)
    go_wp2
    go_ret
    exact ⟨by rw [e.out];rfl,_,rfl⟩
  · have h1':=decide_eq_false h1
    by_cases h2:a.p=b.p
    · have h2':(a.p == b.p)=true:=beq_iff_eq.2 h2
      by_cases h3:a.id<b.id
      · have h3':=decide_eq_true h3
        have e:Hid (aheadB 0 a b=true):=hide (by simp [aheadB,h2,h3])
        clear h2 h1
        go_enter Tryz.func120,Tryz.ntmps120
        go_wp2
        go_quiet (fail)
        go_wp2
        go_ret
        exact ⟨by rw [e.out];rfl,_,rfl⟩
      · have h3':=decide_eq_false h3
        have e:Hid (aheadB 0 a b=false):=hide (by simp [aheadB,h2,h3])
        clear h2 h1
        go_enter Tryz.func120,Tryz.ntmps120
        go_wp2
        go_quiet (fail)
        go_wp2
        go_ret
        exact ⟨by rw [e.out];rfl,_,rfl⟩
    · have h2':(a.p == b.p)=false:=beq_eq_false_iff_ne.2 h2
      have e:Hid (aheadB 0 a b=false):=hide (by simp [aheadB,h1,h2])
      clear h1 h2
      go_enter Tryz.func120,Tryz.ntmps120
      go_wp2
      go_quiet (fail)
      go_wp2
      go_ret
      exact ⟨by rw [e.out];rfl,_,rfl⟩

set_option maxHeartbeats 400000 in
theorem aheadSell_any (w:World) (x y:Nat) (a b:Od) (ha:OdAt w x a) (hb:OdAt w y b) :
    Calls Tryz.prog 121 #[.pointer (some ⟨x,0,none⟩),.pointer (some ⟨y,0,none⟩)] w fun e w'=>e = .returned (.bool (aheadB 1 a b))∧∃ n,w'=w.drewN n:=by
  have a0:=(ha 0 _ rfl).cell
  have a5:=(ha 5 _ rfl).cell
  have b0:=(hb 0 _ rfl).cell
  have b5:=(hb 5 _ rfl).cell
  clear ha hb
  by_cases h1:a.p<b.p
  · have h1':decide (a.p<b.p)=true:=decide_eq_true h1
    have e:Hid (aheadB 1 a b=true):=hide (by simp [aheadB,h1])
    go_enter Tryz.func121,Tryz.ntmps121
    go_wp2
    go_quiet (fail)
    go_wp2
    go_ret
    exact ⟨by rw [e.out];rfl,_,rfl⟩
  · have h1':=decide_eq_false h1
    by_cases h2:a.p=b.p
    · have h2':(a.p == b.p)=true:=beq_iff_eq.2 h2
      by_cases h3:a.id<b.id
      · have h3':=decide_eq_true h3
        have e:Hid (aheadB 1 a b=true):=hide (by simp [aheadB,h2,h3])
        clear h2 h1
        go_enter Tryz.func121,Tryz.ntmps121
        go_wp2
        go_quiet (fail)
        go_wp2
        go_ret
        exact ⟨by rw [e.out];rfl,_,rfl⟩
      · have h3':=decide_eq_false h3
        have e:Hid (aheadB 1 a b=false):=hide (by simp [aheadB,h2,h3])
        clear h2 h1
        go_enter Tryz.func121,Tryz.ntmps121
        go_wp2
        go_quiet (fail)
        go_wp2
        go_ret
        exact ⟨by rw [e.out];rfl,_,rfl⟩
    · have h2':(a.p == b.p)=false:=beq_eq_false_iff_ne.2 h2
      have e:Hid (aheadB 1 a b=false):=hide (by simp [aheadB,h1,h2])
      clear h1 h2
      go_enter Tryz.func121,Tryz.ntmps121
      go_wp2
      go_quiet (fail)
      go_wp2
      go_ret
      exact ⟨by rw [e.out];rfl,_,rfl⟩
end

end Go.Proofs.YtcfoobhihhndjaaGreat
