
import Derived.Deep.AppendLies
import Derived.LaidEqlPtr
import Derived.Sort.WalkB12
import Derived.Test.YtcfoobhihhndjaaGreatB01
namespace Go.Proofs.YtcfoobhihhndjaaGreat

section
open Go.RowKit

theorem upG_len_le {f:Nat→Nat→List Nat} {g G:Nat} (h:g≤G):(upG f g).length≤(upG f G).length:=by
  induction G with
  | zero => obtain rfl : g = 0 := by omega
            exact Nat.le_refl _
  | succ k ih =>
    by_cases e:g=k+1
    · rw [e];exact Nat.le_refl _
    · have:=ih (by omega)
      simp only [upG,List.length_append]
      omega
theorem upH_len_le {G:Nat} {f:Nat→Nat→Nat→List Nat} {h H:Nat} (hh:h≤H):(upH G f h).length≤(upH G f H).length:=by
  induction H with
  | zero => obtain rfl : h = 0 := by omega
            exact Nat.le_refl _
  | succ k ih =>
    by_cases e:h=k+1
    · rw [e];exact Nat.le_refl _
    · have:=ih (by omega)
      simp only [upH,List.length_append]
      omega

def cameTo (L:PL) (m:Mt) (h g s:Nat):List Nat:=upH m.G L.ob h ++ (upG (L.ob h) g ++ (if s=0 then [] else if s=1 then L.ob h g 0 else two (L.ob h g)))

theorem came_len {L:PL} {m:Mt} {h g s:Nat} (hh:h<m.H) (hg:g<m.G):(cameTo L m h g s).length≤(L.all m).length:=by
  have h1:=upH_len_le (G:=m.G) (f:=L.ob) (h:=h+1) (H:=m.H) (by omega)
  have h2:=upG_len_le (f:=L.ob h) (g:=g+1) (G:=m.G) (by omega)
  simp only [cameTo,PL.all,upH,upG,two,List.length_append] at *
  split
  · simp;omega
  · split
    · omega
    · simp only [List.length_append];omega

theorem ixBuy (a b:Option Addr) (w:World):(Instr.index 147 (.agg #[.pointer a,.pointer b]) (.int .i64 0)).run Tryz.prog w = .ok (.pointer a) w:=by
  simp [Instr.index,run_underlying Tryz.underlying147,asIntOf,go_sem]
theorem ixSell (a b:Option Addr) (w:World):(Instr.index 147 (.agg #[.pointer a,.pointer b]) (.int .i64 1)).run Tryz.prog w = .ok (.pointer b) w:=by
  simp [Instr.index,run_underlying Tryz.underlying147,asIntOf,go_sem]

theorem app_one {w V:World} {L:PL} {m:Mt} (R:PRep w L m) (hB:Below w.heap.size w V) {h g s:Nat} (q:at3 m h g s) {a:Option Addr} {len cap:Nat} {ps:List Nat} (hrow:V.ownsRow w.heap.size 94 1 (.slice a len cap) ps.length (ps.map optr)) (hl:ps.length+(L.ob h g s).length≤1000000) :
    ∃ (a':Option Addr) (n' c':Nat),V.cell? ⟨L.qb h g s,1,none⟩=some (.slice a' n' c') ∧
      Hid (Calls Tryz.prog 122 #[.slice a len cap,.func (.func 143) #[] #[.pointer (some ⟨V.heap.size,0,none⟩)]] (V.alloc (.cells #[.slice a' n' c'] 142)) fun e W'=>∃ v,e = .returned v∧W'.ownsRow w.heap.size 94 1 v (ps ++ L.ob h g s).length ((ps ++ L.ob h g s).map optr)∧Below w.heap.size w W'):=by
  obtain ⟨a',c',e⟩:=R.qvform q
  have c1:=((R.bel hB).q1 h g s q).cell
  have hp:=(R.ptrs q).below hB
  rw [e] at c1 hp
  refine ⟨a',_,c',c1,hide ?_⟩
  have hB2:Below w.heap.size w (V.alloc (.cells #[.slice a' (L.ob h g s).length c'] 142)):=hB.alloc hB.size _
  refine ((callsIn_wide (n:=3)).1 (appendSeq_in Fence.wide 3 trivial trivial rfl (Nat.le_refl _) _ w.heap.size V.heap.size a len cap (.slice a' (L.ob h g s).length c') ps (L.ob h g s) (by have:=hB.size;simp;omega) hl (hrow.alloc _) ?_ (hp.below ((Below.refl _ _).alloc hB.size _)))).mono ?_
  · exact (Boxed.new V 142 _).cell
  · rintro e W' ⟨v,rfl,h1,h2⟩
    exact ⟨v,rfl,by simpa using h1,hB2.trans h2⟩

theorem row_form {w:World} {B:Nat} {e:TypeId} {z:Nat} {v:Value} {n:Nat} {xs:List Value} (h:w.ownsRow B e z v n xs):∃ a c,v = .slice a n c:=by
  rcases h.2 with ⟨h1,h2⟩ | ⟨_,_,_,h1,_⟩
  · exact ⟨none,0,by rw [h1,h2]⟩
  · exact ⟨_,_,h1⟩

set_option maxRecDepth 100000 in
set_option maxHeartbeats 4000000 in
theorem waiting_any (w:World) (L:PL) (m:Mt) (N:Int) (R:PRep w L m) (ok:m.Ok N) (hl:(L.all m).length≤60) :
    Calls Tryz.prog 93 #[.pointer (some ⟨L.x,0,none⟩)] w fun e w'=>∃ v,e = .returned v∧w'.ownsRow w.heap.size 94 1 v (L.all m).length ((L.all m).map optr)∧Below w.heap.size w w':=by
  have c4:=R.cB.cell
  have bH:=ok.H4
  have bG:=ok.G4
  have HR:=hide R
  have HL:=hide hl
  have ix0:=ixBuy
  have ix1:=ixSell
  clear R
  go_enter Tryz.func93,Tryz.ntmps93
  go_wp2
  go_loopw [3,15] (fun a i wr=>∃ h:Nat,h≤m.H∧i = .int .i64 h∧wr.ownsRow w.heap.size 94 1 a (upH m.G L.ob h).length ((upH m.G L.ob h).map optr)∧Below w.heap.size w wr) (fun _ i _=>m.H - (intOf i).toNat)
  case atStart=>exact ⟨0,by omega,rfl,World.ownsRow_nil _ _ _ _,Below.refl _ _⟩
  case round =>
    obtain ⟨h,hh,rfl,hown,hB⟩:=hrel
    by_cases hlt:h<m.H
    · have hlt':(h:Int)<(m.H:Int):=by omega
      have b1:wr.cell? ⟨L.bb,h,none⟩=some (.slice (some ⟨L.gb h,0,none⟩) m.G m.G):=(HR.out.bel hB).bks h hlt
      have st0:wr.ownsRow w.heap.size 94 1 u3 (cameTo L m h 0 0).length ((cameTo L m h 0 0).map optr):=by simpa [cameTo,upG] using hown
      clear hown
      go_wp2
      go_loopw [3,21] (fun a i wr=>∃ g:Nat,g≤m.G∧i = .int .i64 g∧wr.ownsRow w.heap.size 94 1 a (cameTo L m h g 0).length ((cameTo L m h g 0).map optr)∧Below w.heap.size w wr) (fun _ i _=>m.G - (intOf i).toNat)
      case atStart=>exact ⟨0,by omega,rfl,st0,hB⟩
      case round =>
        clear st0 hB b1
        obtain ⟨g,hg,rfl,hown,hB⟩:=hrel
        by_cases hlg:g<m.G
        · have hlg':(g:Int)<(m.G:Int):=by omega
          have Rr:=HR.out.bel hB
          have d0:wr.cell? ⟨L.gb h,g * 5,none⟩=some (.pointer (some ⟨L.qb h g 0,0,none⟩)):=(Rr.sd h g 0 ⟨hlt,hlg,by omega⟩).cell
          have d1:wr.cell? ⟨L.gb h,g * 5+1,none⟩=some (.pointer (some ⟨L.qb h g 1,0,none⟩)):=(Rr.sd h g 1 ⟨hlt,hlg,by omega⟩).cell
          have d2:=(Rr.la h g hlt hlg).cell
          have d3:=(Rr.pi h g hlt hlg).cell
          have d4:=(Rr.am h g hlt hlg).cell
          clear Rr
          have hB2:Below w.heap.size w (wr.alloc (.cells #[.pointer (some ⟨L.qb h g 0,0,none⟩),.pointer (some ⟨L.qb h g 1,0,none⟩),.int .i64 (m.la h g),.int .i64 (m.pi h g),.int .i64 (m.am h g)] 149)):=hB.alloc hB.size _
          have hown2:=hown.alloc (.cells #[.pointer (some ⟨L.qb h g 0,0,none⟩),.pointer (some ⟨L.qb h g 1,0,none⟩),.int .i64 (m.la h g),.int .i64 (m.pi h g),.int .i64 (m.am h g)] 149)
          go_wp2
          clear hown hB d0 d1 d2 d3 d4
          go_loopw [3,27] (fun a i wr=>∃ s:Nat,s≤2∧i = .int .i64 s∧wr.ownsRow w.heap.size 94 1 a (cameTo L m h g s).length ((cameTo L m h g s).map optr)∧Below w.heap.size w wr) (fun _ i _=>2 - (intOf i).toNat)
          case atStart=>exact ⟨0,by omega,rfl,hown2,hB2⟩
          case round =>
            clear hown2 hB2
            obtain ⟨s,hs,rfl,hown,hB⟩:=hrel
            obtain ⟨ra,rc,rfl⟩:=row_form hown
            have hcl:=came_len (L:=L) (m:=m) (s:=s) hlt hlg
            rcases s with _ | _ | _ | s
            · obtain ⟨a',n',c',c1,HA⟩:=app_one HR.out hB (h:=h) (g:=g) (s:=0) ⟨hlt,hlg,by omega⟩ hown (by have:=came_len (L:=L) (m:=m) (s:=1) hlt hlg;simp [cameTo] at this hcl ⊢;omega)
              go_wp2_with (first | (go_at_call 118;refine (all_any _ _ _ _ _ c1).mono ?_;rintro e w' ⟨rfl,rfl⟩) | (go_at_call 122;refine HA.out.mono ?_;rintro e W2 ⟨v2,rfl,hown2,hB2⟩;obtain ⟨ra2,rc2,rfl⟩:=row_form hown2))
              exact ⟨⟨1,by omega,by go_num,by simpa [cameTo,Nat.add_assoc] using hown2,hB2⟩,by simp [intOf]⟩
            · obtain ⟨a',n',c',c1,HA⟩:=app_one HR.out hB (h:=h) (g:=g) (s:=1) ⟨hlt,hlg,by omega⟩ hown (by have:=came_len (L:=L) (m:=m) (s:=2) hlt hlg;simp [cameTo,two] at this hcl ⊢;omega)
              go_wp2_with (first | (go_at_call 118;refine (all_any _ _ _ _ _ c1).mono ?_;rintro e w' ⟨rfl,rfl⟩) | (go_at_call 122;refine HA.out.mono ?_;rintro e W2 ⟨v2,rfl,hown2,hB2⟩;obtain ⟨ra2,rc2,rfl⟩:=row_form hown2))
              exact ⟨⟨2,by omega,by go_num,by simpa [cameTo,two,Nat.add_assoc] using hown2,hB2⟩,by simp [intOf]⟩
            · go_wp2
              exact ⟨⟨g+1,by omega,by go_num,by simpa [cameTo,upG] using hown,hB⟩,by simp [intOf];omega⟩
            · omega
        · have e:g=m.G:=by omega
          have hown2:wr.ownsRow w.heap.size 94 1 u3 (upH m.G L.ob (h+1)).length ((upH m.G L.ob (h+1)).map optr):=by
            rw [e] at hown
            simpa [cameTo,upH] using hown
          clear hown
          go_wp2
          exact ⟨⟨h+1,by omega,by go_num,hown2,hB⟩,by simp [intOf];omega⟩
    · have e:h=m.H:=by omega
      have hown2:wr.ownsRow w.heap.size 94 1 u3 (L.all m).length ((L.all m).map optr):=by
        rw [e] at hown
        exact hown
      clear hown
      go_wp2
      go_ret
      exact ⟨_,rfl,hown2,hB⟩
end

section
open Go.RowKit

structure Rm where
  T:Nat
  G:Nat
  H:Nat
  rt:Nat→Int
  mo:Nat→Int
  pc:Nat→Nat→Nat→Int
  wt:List Od
  ld:List Lo
  la:Nat→Nat→Int
  pi:Nat→Nat→Int
  am:Nat→Nat→Int
  nx:Int
  ho:Int
  tm:Int

def rdCells (l:List Od):List Value:=l.flatMap Od.cells

theorem rdCells_length (a:List Od):(rdCells a).length=a.length * 8:=by
  induction a with
  | nil=>rfl
  | cons x a ih=>simp only [rdCells,List.flatMap_cons,List.length_append] at ih ⊢;rw [ih];simp [Od.cells];omega
theorem rdCells_append (a b:List Od):rdCells (a ++ b)=rdCells a ++ rdCells b:=by simp [rdCells]
theorem rdCells_one (a:Od):rdCells [a]=a.cells:=by simp [rdCells]
theorem rdCells_at (a:List Od) (i:Nat) (l:Od) (h:a[i]? = some l) (j:Nat) (hj:j<8):(rdCells a)[i * 8+j]? = l.cells[j]?:=by
  induction a generalizing i with
  | nil=>simp at h
  | cons x a ih =>
    cases i with
    | zero =>
      simp at h
      subst h
      simp only [rdCells,List.flatMap_cons,Nat.zero_mul,Nat.zero_add]
      rw [List.getElem?_append_left (by simp [Od.cells];omega)]
    | succ i =>
      simp at h
      have:=ih i h
      rw [← this]
      simp only [rdCells,List.flatMap_cons]
      rw [List.getElem?_append_right (by simp [Od.cells];omega)]
      congr 1
      simp [Od.cells]
      omega
theorem rdCells_one' (a:List Od):∀ u,u∈rdCells a→u.oneCell'=true:=by
  intro u hu
  obtain ⟨x,_,hx⟩:=List.mem_flatMap.1 hu
  simp only [Od.cells,List.mem_cons,List.not_mem_nil,or_false] at hx
  rcases hx with rfl | rfl | rfl | rfl | rfl | rfl | rfl | rfl <;> rfl

structure RL where
  c:Nat
  rb:Nat
  rcap:Nat
  mb:Nat
  pb:Nat
  wv:Value
  lv:Value
  lab:Nat
  pib:Nat
  amb:Nat

def RL.F (L:RL):Nat→Option Nat
  | 0=>some L.c
  | 1=>some L.mb
  | 2=>some L.pb
  | 3=>some L.lab
  | 4=>some L.pib
  | 5=>some L.amb
  | 6=>L.wv.ownBlock
  | 7=>L.lv.ownBlock
  | 8=>some L.rb
  | _=>none

def RL.S (L:RL) (b:Nat):Prop:=∃ i,L.F i=some b

structure RC (w:World) (L:RL) (r:Rm):Prop where
  cT:Own w ⟨L.c,0,none⟩ (.int .i64 r.T)
  cG:Own w ⟨L.c,1,none⟩ (.int .i64 r.G)
  cR:Own w ⟨L.c,2,none⟩ (.slice (some ⟨L.rb,0,none⟩) r.H L.rcap)
  cM:Own w ⟨L.c,3,none⟩ (.slice (some ⟨L.mb,0,none⟩) r.T r.T)
  cP:Own w ⟨L.c,4,none⟩ (.slice (some ⟨L.pb,0,none⟩) (r.T * r.G * r.H) (r.T * r.G * r.H))
  cW:Own w ⟨L.c,5,none⟩ L.wv
  cL:Own w ⟨L.c,6,none⟩ L.lv
  cLa:Own w ⟨L.c,7,none⟩ (.slice (some ⟨L.lab,0,none⟩) (r.G * r.H) (r.G * r.H))
  cPi:Own w ⟨L.c,8,none⟩ (.slice (some ⟨L.pib,0,none⟩) (r.G * r.H) (r.G * r.H))
  cAm:Own w ⟨L.c,9,none⟩ (.slice (some ⟨L.amb,0,none⟩) (r.G * r.H) (r.G * r.H))
  cN:Own w ⟨L.c,10,none⟩ (.int .i64 r.nx)
  cF:Own w ⟨L.c,11,none⟩ (.int .i64 r.ho)
  cTm:Own w ⟨L.c,12,none⟩ (.int .i64 r.tm)

def RPart (w:World) (L:RL) (r:Rm):Nat→Prop
  | 0=>RC w L r
  | 1=>∀ t,t<r.T→Own w ⟨L.mb,t,none⟩ (.int .i64 (r.mo t))
  | 2=>∀ t h g,t<r.T→h<r.H→g<r.G→Own w ⟨L.pb,(t * r.H+h) * r.G+g,none⟩ (.int .i64 (r.pc t h g))
  | 3=>∀ h g,h<r.H→g<r.G→Own w ⟨L.lab,h * r.G+g,none⟩ (.int .i64 (r.la h g))
  | 4=>∀ h g,h<r.H→g<r.G→Own w ⟨L.pib,h * r.G+g,none⟩ (.int .i64 (r.pi h g))
  | 5=>∀ h g,h<r.H→g<r.G→Own w ⟨L.amb,h * r.G+g,none⟩ (.int .i64 (r.am h g))
  | 6=>w.ownsRow 0 40 8 L.wv r.wt.length (rdCells r.wt)
  | 7=>w.ownsRow 0 141 5 L.lv r.ld.length (loCells r.ld)
  | 8=>∀ h,h<r.H→w.cell? ⟨L.rb,h,none⟩=some (.int .i64 (r.rt h))
  | _=>True

theorem RPart.kep {S:Nat→Prop} {w w':World} {L:RL} {r:Rm} (k:Kep S w w'):∀ (i:Nat),(∀ b,L.F i=some b→¬ S b)→RPart w L r i→RPart w' L r i
  | 0,hs,h=>by
    have a:=hs L.c rfl
    exact ⟨h.cT.kep k a,h.cG.kep k a,h.cR.kep k a,h.cM.kep k a,h.cP.kep k a,h.cW.kep k a,h.cL.kep k a,h.cLa.kep k a,h.cPi.kep k a,h.cAm.kep k a,h.cN.kep k a,h.cF.kep k a,h.cTm.kep k a⟩
  | 1,hs,h=>fun t ht=>(h t ht).kep k (hs L.mb rfl)
  | 2,hs,h=>fun t i g ht hi hg=>(h t i g ht hi hg).kep k (hs L.pb rfl)
  | 3,hs,h=>fun i g hi hg=>(h i g hi hg).kep k (hs L.lab rfl)
  | 4,hs,h=>fun i g hi hg=>(h i g hi hg).kep k (hs L.pib rfl)
  | 5,hs,h=>fun i g hi hg=>(h i g hi hg).kep k (hs L.amb rfl)
  | 6,hs,h=>ownsRow_kep h k hs
  | 7,hs,h=>ownsRow_kep h k hs
  | 8,hs,h=>fun i hi=>k.cell (h i hi) (hs L.rb rfl)
  | _+9,_,_=>trivial

structure RRep (w:World) (L:RL) (r:Rm):Prop where
  p:∀ i,RPart w L r i
  inj:∀ i j b,L.F i=some b→L.F j=some b→i=j

section
variable {w w':World} {L:RL} {r:Rm}

theorem RRep.c (R:RRep w L r):RC w L r:=R.p 0
theorem RRep.mo (R:RRep w L r):∀ t,t<r.T→Own w ⟨L.mb,t,none⟩ (.int .i64 (r.mo t)):=R.p 1
theorem RRep.pc (R:RRep w L r):∀ t h g,t<r.T→h<r.H→g<r.G→Own w ⟨L.pb,(t * r.H+h) * r.G+g,none⟩ (.int .i64 (r.pc t h g)):=R.p 2
theorem RRep.la (R:RRep w L r):∀ h g,h<r.H→g<r.G→Own w ⟨L.lab,h * r.G+g,none⟩ (.int .i64 (r.la h g)):=R.p 3
theorem RRep.pi (R:RRep w L r):∀ h g,h<r.H→g<r.G→Own w ⟨L.pib,h * r.G+g,none⟩ (.int .i64 (r.pi h g)):=R.p 4
theorem RRep.am (R:RRep w L r):∀ h g,h<r.H→g<r.G→Own w ⟨L.amb,h * r.G+g,none⟩ (.int .i64 (r.am h g)):=R.p 5
theorem RRep.wt (R:RRep w L r):w.ownsRow 0 40 8 L.wv r.wt.length (rdCells r.wt):=R.p 6
theorem RRep.ld (R:RRep w L r):w.ownsRow 0 141 5 L.lv r.ld.length (loCells r.ld):=R.p 7
theorem RRep.rt (R:RRep w L r):∀ h,h<r.H→w.cell? ⟨L.rb,h,none⟩=some (.int .i64 (r.rt h)):=R.p 8
theorem RRep.ne (R:RRep w L r) {i j a b:Nat} (h1:L.F i=some a) (h2:L.F j=some b) (hij:i≠j):a≠b:=fun e=>hij (R.inj i j b (e ▸ h1) h2)

theorem RRep.keep {S:Nat→Prop} (R:RRep w L r) (k:Kep S w w') (hs:∀ b,L.S b→¬ S b):RRep w' L r:=⟨fun i=>(R.p i).kep k i fun b hb=>hs b ⟨i,hb⟩,R.inj⟩
theorem RRep.later (R:RRep w L r) (k:Kep non w w'):RRep w' L r:=R.keep k fun _ _ q=>q
theorem RRep.bel (R:RRep w L r) (k:Below w.heap.size w w'):RRep w' L r:=R.later (Kep.of_below k)

theorem RRep.one {r':Rm} (R:RRep w L r) (j:Nat) (k:Kep (fun b=>L.F j=some b) w w') (hn:RPart w' L r' j) (ho:∀ i,i≠j→RPart w' L r i→RPart w' L r' i):RRep w' L r':=by
  refine ⟨fun i=>?_,R.inj⟩
  by_cases e:i=j
  · subst e;exact hn
  · exact ho i e ((R.p i).kep k i fun b hb f=>e (R.inj i j b hb f))

theorem RRep.lt (R:RRep w L r) (T1:1≤r.T) (G1:1≤r.G) (H1:1≤r.H):∀ b,L.S b→b<w.heap.size:=by
  rintro b ⟨i,hi⟩
  rcases i with _ | _ | _ | _ | _ | _ | _ | _ | _ | i
  · obtain rfl:L.c=b:=by simpa [RL.F] using hi
    exact R.c.cT.lt
  · obtain rfl:L.mb=b:=by simpa [RL.F] using hi
    exact (R.mo 0 (by omega)).lt
  · obtain rfl:L.pb=b:=by simpa [RL.F] using hi
    exact (R.pc 0 0 0 (by omega) (by omega) (by omega)).lt
  · obtain rfl:L.lab=b:=by simpa [RL.F] using hi
    exact (R.la 0 0 (by omega) (by omega)).lt
  · obtain rfl:L.pib=b:=by simpa [RL.F] using hi
    exact (R.pi 0 0 (by omega) (by omega)).lt
  · obtain rfl:L.amb=b:=by simpa [RL.F] using hi
    exact (R.am 0 0 (by omega) (by omega)).lt
  · exact (R.wt.lt b hi).2
  · exact (R.ld.lt b hi).2
  · obtain rfl:L.rb=b:=by simpa [RL.F] using hi
    exact World.block_lt_of_cell? w _ (R.rt 0 (by omega))
  · simp [RL.F] at hi
end

def Rm.setMo (m:Rm) (k:Nat) (x:Int):Rm:={ m with mo:=fun i=>if i=k then x else m.mo i }
def Rm.setPc (m:Rm) (t h g:Nat) (x:Int):Rm:={ m with pc:=fun i j k=>if i=t∧j=h∧k=g then x else m.pc i j k }
def set2 (f:Nat→Nat→Int) (h g:Nat) (x:Int):Nat→Nat→Int:=fun a b=>if a=h∧b=g then x else f a b

theorem lot_inj {t h g t' h' g' H G:Nat} (hh:h<H) (hh':h'<H) (hg:g<G) (hg':g'<G) (e:(t * H+h) * G+g=(t' * H+h') * G+g'):t=t'∧h=h'∧g=g':=by
  have e1:t * H+h=t' * H+h':=by
    have a:((t * H+h) * G+g) / G=((t' * H+h') * G+g') / G:=by rw [e]
    have hG:0<G:=by omega
    rw [Nat.mul_comm _ G,Nat.mul_comm _ G,Nat.mul_add_div hG,Nat.mul_add_div hG,Nat.div_eq_of_lt hg,Nat.div_eq_of_lt hg'] at a
    simpa using a
  have e2:g=g':=by rw [e1] at e;omega
  have e3:t=t':=by
    have a:(t * H+h) / H=(t' * H+h') / H:=by rw [e1]
    have hH:0<H:=by omega
    rw [Nat.mul_comm _ H,Nat.mul_comm _ H,Nat.mul_add_div hH,Nat.mul_add_div hH,Nat.div_eq_of_lt hh,Nat.div_eq_of_lt hh'] at a
    simpa using a
  subst e3
  exact ⟨rfl,by omega,e2⟩
theorem spot_inj {h g h' g' G:Nat} (hg:g<G) (hg':g'<G) (e:h * G+g=h' * G+g'):h=h'∧g=g':=by
  have:=lot_inj (t:=0) (t':=0) (h:=h) (h':=h') (H:=h+h'+1) (G:=G) (g:=g) (g':=g') (by omega) (by omega) hg hg' (by simpa using e)
  exact ⟨this.2.1,this.2.2⟩
theorem lot_lt {t h g T H G:Nat} (ht:t<T) (hh:h<H) (hg:g<G):(t * H+h) * G+g<T * G * H:=by
  have h1:t * H+h+1≤T * H:=by
    have:(t+1) * H≤T * H:=Nat.mul_le_mul_right _ ht
    rw [Nat.add_mul] at this
    omega
  have h2:(t * H+h+1) * G≤T * H * G:=Nat.mul_le_mul_right _ h1
  have h3:T * H * G=T * G * H:=by rw [Nat.mul_assoc,Nat.mul_comm H G,← Nat.mul_assoc]
  rw [Nat.add_mul] at h2
  omega
theorem spot_lt {h g H G:Nat} (hh:h<H) (hg:g<G):h * G+g<G * H:=by
  have:=lot_lt (t:=0) (T:=1) (by omega) hh hg
  simpa using this

section
variable {w:World} {L:RL} {r:Rm}

theorem kep_at (w:World) (L:RL) (j:Nat) {p:Addr} (hp:L.F j=some p.block) (u:Value):Kep (fun b=>L.F j=some b) w (w.setCell p u):=(Kep.refl (fun b=>L.F j=some b) w).setCell (p:=p) (.inl hp) u

theorem RRep.setMo (R:RRep w L r) (k:Nat) (hk:k<r.T) (x:Int):RRep (w.setCell ⟨L.mb,k,none⟩ (.int .i64 x)) L (r.setMo k x):=by
  refine R.one 1 (kep_at w L 1 rfl _) (fun t ht=>?_) (fun i hi h=>?_)
  · by_cases e:t=k
    · subst e
      simpa [Rm.setMo] using (R.mo t hk).set rfl (.int .i64 x)
    · simpa [Rm.setMo,e] using (R.mo t ht).set_other (q:=⟨L.mb,k,none⟩) (by intro q;injection q with _ q _;exact e q) rfl rfl (.int .i64 x)
  · rcases i with _ | _ | _ | _ | _ | _ | _ | _ | _ | i
    · exact ⟨h.cT,h.cG,h.cR,h.cM,h.cP,h.cW,h.cL,h.cLa,h.cPi,h.cAm,h.cN,h.cF,h.cTm⟩
    · exact absurd rfl hi
    all_goals exact h

theorem RRep.setPc (R:RRep w L r) (t i g:Nat) (ht:t<r.T) (hi:i<r.H) (hg:g<r.G) (x:Int):RRep (w.setCell ⟨L.pb,(t * r.H+i) * r.G+g,none⟩ (.int .i64 x)) L (r.setPc t i g x):=by
  refine R.one 2 (kep_at w L 2 rfl _) (fun t' i' g' ht' hi' hg'=>?_) (fun j hj h=>?_)
  · by_cases e:t'=t∧i'=i∧g'=g
    · obtain ⟨rfl,rfl,rfl⟩:=e
      simpa [Rm.setPc] using (R.pc t' i' g' ht hi hg).set rfl (.int .i64 x)
    · have:=(R.pc t' i' g' ht' hi' hg').set_other (q:=⟨L.pb,(t * r.H+i) * r.G+g,none⟩) (fun e'=>e (lot_inj (H:=r.H) (G:=r.G) hi' hi hg' hg (by simpa using e'))) rfl rfl (.int .i64 x)
      simpa [Rm.setPc,e] using this
  · rcases j with _ | _ | _ | _ | _ | _ | _ | _ | _ | j
    · exact ⟨h.cT,h.cG,h.cR,h.cM,h.cP,h.cW,h.cL,h.cLa,h.cPi,h.cAm,h.cN,h.cF,h.cTm⟩
    · exact h
    · exact absurd rfl hj
    all_goals exact h

theorem set2_at {w:World} {b G H:Nat} {f:Nat→Nat→Int} (hf:∀ i g,i<H→g<G→Own w ⟨b,i * G+g,none⟩ (.int .i64 (f i g))) (i g:Nat) (hi:i<H) (hg:g<G) (x:Int) :
    ∀ a c,a<H→c<G→Own (w.setCell ⟨b,i * G+g,none⟩ (.int .i64 x)) ⟨b,a * G+c,none⟩ (.int .i64 (set2 f i g x a c)):=by
  intro a c ha hc
  by_cases e:a=i∧c=g
  · obtain ⟨rfl,rfl⟩:=e
    simpa [set2] using (hf a c hi hg).set rfl (.int .i64 x)
  · have:=(hf a c ha hc).set_other (q:=⟨b,i * G+g,none⟩) (fun e'=>e (spot_inj (G:=G) hc hg (by simpa using e'))) rfl rfl (.int .i64 x)
    simpa [set2,e] using this

theorem RRep.setLa (R:RRep w L r) (i g:Nat) (hi:i<r.H) (hg:g<r.G) (x:Int):RRep (w.setCell ⟨L.lab,i * r.G+g,none⟩ (.int .i64 x)) L { r with la:=set2 r.la i g x }:=by
  refine R.one 3 (kep_at w L 3 rfl _) (set2_at R.la i g hi hg x) (fun j hj h=>?_)
  rcases j with _ | _ | _ | _ | _ | _ | _ | _ | _ | j
  · exact ⟨h.cT,h.cG,h.cR,h.cM,h.cP,h.cW,h.cL,h.cLa,h.cPi,h.cAm,h.cN,h.cF,h.cTm⟩
  all_goals first | exact h | exact absurd rfl hj
theorem RRep.setPi (R:RRep w L r) (i g:Nat) (hi:i<r.H) (hg:g<r.G) (x:Int):RRep (w.setCell ⟨L.pib,i * r.G+g,none⟩ (.int .i64 x)) L { r with pi:=set2 r.pi i g x }:=by
  refine R.one 4 (kep_at w L 4 rfl _) (set2_at R.pi i g hi hg x) (fun j hj h=>?_)
  rcases j with _ | _ | _ | _ | _ | _ | _ | _ | _ | j
  · exact ⟨h.cT,h.cG,h.cR,h.cM,h.cP,h.cW,h.cL,h.cLa,h.cPi,h.cAm,h.cN,h.cF,h.cTm⟩
  all_goals first | exact h | exact absurd rfl hj
theorem RRep.setAm (R:RRep w L r) (i g:Nat) (hi:i<r.H) (hg:g<r.G) (x:Int):RRep (w.setCell ⟨L.amb,i * r.G+g,none⟩ (.int .i64 x)) L { r with am:=set2 r.am i g x }:=by
  refine R.one 5 (kep_at w L 5 rfl _) (set2_at R.am i g hi hg x) (fun j hj h=>?_)
  rcases j with _ | _ | _ | _ | _ | _ | _ | _ | _ | j
  · exact ⟨h.cT,h.cG,h.cR,h.cM,h.cP,h.cW,h.cL,h.cLa,h.cPi,h.cAm,h.cN,h.cF,h.cTm⟩
  all_goals first | exact h | exact absurd rfl hj

theorem oc_ne {w:World} {c j o:Nat} {u v:Value} (h:Own w ⟨c,o,none⟩ v) (ho:o≠j):Own (w.setCell ⟨c,j,none⟩ u) ⟨c,o,none⟩ v:=h.set_other (by intro q;injection q with _ q _;exact ho q) rfl rfl _

theorem RRep.setTm (R:RRep w L r) (x:Int):RRep (w.setCell ⟨L.c,12,none⟩ (.int .i64 x)) L { r with tm:=x }:=by
  have h:=R.c
  refine R.one 0 (kep_at w L 0 rfl _) ⟨oc_ne h.cT (by decide),oc_ne h.cG (by decide),oc_ne h.cR (by decide),oc_ne h.cM (by decide),oc_ne h.cP (by decide),oc_ne h.cW (by decide),oc_ne h.cL (by decide),oc_ne h.cLa (by decide),oc_ne h.cPi (by decide),oc_ne h.cAm (by decide),oc_ne h.cN (by decide),oc_ne h.cF (by decide),h.cTm.set rfl _⟩ (fun j hj h=>?_)
  rcases j with _ | _ | _ | _ | _ | _ | _ | _ | _ | j
  all_goals first | exact h | exact absurd rfl hj
theorem RRep.setHo (R:RRep w L r) (x:Int):RRep (w.setCell ⟨L.c,11,none⟩ (.int .i64 x)) L { r with ho:=x }:=by
  have h:=R.c
  refine R.one 0 (kep_at w L 0 rfl _) ⟨oc_ne h.cT (by decide),oc_ne h.cG (by decide),oc_ne h.cR (by decide),oc_ne h.cM (by decide),oc_ne h.cP (by decide),oc_ne h.cW (by decide),oc_ne h.cL (by decide),oc_ne h.cLa (by decide),oc_ne h.cPi (by decide),oc_ne h.cAm (by decide),oc_ne h.cN (by decide),h.cF.set rfl _,oc_ne h.cTm (by decide)⟩ (fun j hj h=>?_)
  rcases j with _ | _ | _ | _ | _ | _ | _ | _ | _ | j
  all_goals first | exact h | exact absurd rfl hj
theorem RRep.setNx (R:RRep w L r) (x:Int):RRep (w.setCell ⟨L.c,10,none⟩ (.int .i64 x)) L { r with nx:=x }:=by
  have h:=R.c
  refine R.one 0 (kep_at w L 0 rfl _) ⟨oc_ne h.cT (by decide),oc_ne h.cG (by decide),oc_ne h.cR (by decide),oc_ne h.cM (by decide),oc_ne h.cP (by decide),oc_ne h.cW (by decide),oc_ne h.cL (by decide),oc_ne h.cLa (by decide),oc_ne h.cPi (by decide),oc_ne h.cAm (by decide),h.cN.set rfl _,oc_ne h.cF (by decide),oc_ne h.cTm (by decide)⟩ (fun j hj h=>?_)
  rcases j with _ | _ | _ | _ | _ | _ | _ | _ | _ | j
  all_goals first | exact h | exact absurd rfl hj

theorem inj_set {L L':RL} (j:Nat) (hinj:∀ i k b,L.F i=some b→L.F k=some b→i=k) (hF:∀ i,i≠j→L'.F i=L.F i) (hn:∀ i b,i≠j→L.F i=some b→L'.F j≠some b):∀ i k b,L'.F i=some b→L'.F k=some b→i=k:=by
  intro i k b h1 h2
  by_cases e1:i=j
  · by_cases e2:k=j
    · rw [e1,e2]
    · exact absurd (e1 ▸ h1) (hn k b e2 (by rw [← hF k e2];exact h2))
  · by_cases e2:k=j
    · exact absurd (e2 ▸ h2) (hn i b e1 (by rw [← hF i e1];exact h1))
    · exact hinj i k b (by rw [← hF i e1];exact h1) (by rw [← hF k e2];exact h2)

theorem RRep.setLd {w1:World} (R:RRep w L r) (k:Kep (fun b=>L.lv.ownBlock=some b) w w1) (ls:List Lo) (v:Value) (hr:w1.ownsRow 0 141 5 v ls.length (loCells ls)) (hn:∀ i b,i≠7→L.F i=some b→v.ownBlock≠some b) :
    RRep (w1.setCell ⟨L.c,6,none⟩ v) { L with lv:=v } { r with ld:=ls }:=by
  have k1:Kep (fun b=>b=L.c) w1 (w1.setCell ⟨L.c,6,none⟩ v):=(Kep.refl (fun b=>b=L.c) w1).setCell (p:=⟨L.c,6,none⟩) (.inl rfl) v
  have p1:∀ i,i≠7→RPart w1 L r i:=fun i hi=>(R.p i).kep k i fun b hb f=>hi (R.inj i 7 b hb f)
  have p2:∀ i,i≠7→i≠0→RPart (w1.setCell ⟨L.c,6,none⟩ v) L r i:=fun i hi h0=>(p1 i hi).kep k1 i fun b hb f=>h0 (R.inj i 0 b hb (congrArg some f.symm))
  refine ⟨fun i=>?_,inj_set 7 R.inj (fun i hi=>?_) (fun i b hi hb=>hn i b hi hb)⟩
  · rcases i with _ | _ | _ | _ | _ | _ | _ | _ | _ | i
    · have h:RC w1 L r:=p1 0 (by decide)
      exact ⟨oc_ne h.cT (by decide),oc_ne h.cG (by decide),oc_ne h.cR (by decide),oc_ne h.cM (by decide),oc_ne h.cP (by decide),oc_ne h.cW (by decide),h.cL.set rfl _,oc_ne h.cLa (by decide),oc_ne h.cPi (by decide),oc_ne h.cAm (by decide),oc_ne h.cN (by decide),oc_ne h.cF (by decide),oc_ne h.cTm (by decide)⟩
    · exact p2 1 (by decide) (by decide)
    · exact p2 2 (by decide) (by decide)
    · exact p2 3 (by decide) (by decide)
    · exact p2 4 (by decide) (by decide)
    · exact p2 5 (by decide) (by decide)
    · exact p2 6 (by decide) (by decide)
    · exact ownsRow_kep hr k1 (fun b hb f=>hn 0 b (by decide) (congrArg some f.symm) hb)
    · exact p2 8 (by decide) (by decide)
    · trivial
  · rcases i with _ | _ | _ | _ | _ | _ | _ | _ | _ | i
    all_goals first | rfl | exact absurd rfl hi

theorem RRep.setWt {w1:World} (R:RRep w L r) (k:Kep (fun b=>L.wv.ownBlock=some b) w w1) (ls:List Od) (v:Value) (hr:w1.ownsRow 0 40 8 v ls.length (rdCells ls)) (hn:∀ i b,i≠6→L.F i=some b→v.ownBlock≠some b) :
    RRep (w1.setCell ⟨L.c,5,none⟩ v) { L with wv:=v } { r with wt:=ls }:=by
  have k1:Kep (fun b=>b=L.c) w1 (w1.setCell ⟨L.c,5,none⟩ v):=(Kep.refl (fun b=>b=L.c) w1).setCell (p:=⟨L.c,5,none⟩) (.inl rfl) v
  have p1:∀ i,i≠6→RPart w1 L r i:=fun i hi=>(R.p i).kep k i fun b hb f=>hi (R.inj i 6 b hb f)
  have p2:∀ i,i≠6→i≠0→RPart (w1.setCell ⟨L.c,5,none⟩ v) L r i:=fun i hi h0=>(p1 i hi).kep k1 i fun b hb f=>h0 (R.inj i 0 b hb (congrArg some f.symm))
  refine ⟨fun i=>?_,inj_set 6 R.inj (fun i hi=>?_) (fun i b hi hb=>hn i b hi hb)⟩
  · rcases i with _ | _ | _ | _ | _ | _ | _ | _ | _ | i
    · have h:RC w1 L r:=p1 0 (by decide)
      exact ⟨oc_ne h.cT (by decide),oc_ne h.cG (by decide),oc_ne h.cR (by decide),oc_ne h.cM (by decide),oc_ne h.cP (by decide),h.cW.set rfl _,oc_ne h.cL (by decide),oc_ne h.cLa (by decide),oc_ne h.cPi (by decide),oc_ne h.cAm (by decide),oc_ne h.cN (by decide),oc_ne h.cF (by decide),oc_ne h.cTm (by decide)⟩
    · exact p2 1 (by decide) (by decide)
    · exact p2 2 (by decide) (by decide)
    · exact p2 3 (by decide) (by decide)
    · exact p2 4 (by decide) (by decide)
    · exact p2 5 (by decide) (by decide)
    · exact ownsRow_kep hr k1 (fun b hb f=>hn 0 b (by decide) (congrArg some f.symm) hb)
    · exact p2 7 (by decide) (by decide)
    · exact p2 8 (by decide) (by decide)
    · trivial
  · rcases i with _ | _ | _ | _ | _ | _ | _ | _ | _ | i
    all_goals first | rfl | exact absurd rfl hi
end

structure RPost (w:World) (L:RL) (r':Rm) (w':World):Prop where
  kp:Kep L.S w w'
  rep:∃ L',L'.c=L.c∧(∀ b,L'.S b→L.S b∨w.heap.size≤b)∧RRep w' L' r'

section
variable {w w1 w2:World} {L:RL} {r r':Rm}
theorem RPost.same (R:RRep w L r) (k:Kep non w w1):RPost w L r w1:=⟨k.none,L,rfl,fun _ hb=>.inl hb,R.later k⟩
theorem RPost.mo (R:RRep w L r) (K:Kep non w w1) (k:Nat) (hk:k<r.T) (x:Int):RPost w L (r.setMo k x) (w1.setCell ⟨L.mb,k,none⟩ (.int .i64 x)) :=
  ⟨(K.none (S:=L.S)).setCell (p:=⟨L.mb,k,none⟩) (.inl ⟨1,rfl⟩) _,L,rfl,fun _ hb=>.inl hb,(R.later K).setMo k hk x⟩
theorem RPost.pcs (R:RRep w L r) (K:Kep non w w1) (t h g:Nat) (ht:t<r.T) (hh:h<r.H) (hg:g<r.G) (k:Nat) (hk:(t * r.H+h) * r.G+g=k) (x:Int):RPost w L (r.setPc t h g x) (w1.setCell ⟨L.pb,k,none⟩ (.int .i64 x)):=hk ▸
  ⟨(K.none (S:=L.S)).setCell (p:=⟨L.pb,(t * r.H+h) * r.G+g,none⟩) (.inl ⟨2,rfl⟩) _,L,rfl,fun _ hb=>.inl hb,(R.later K).setPc t h g ht hh hg x⟩
theorem RPost.later (h:RPost w L r w1) (k:Kep non w1 w2):RPost w L r w2 :=
  ⟨h.kp.trans k.none,by obtain ⟨L',h1,h2,h3⟩:=h.rep;exact ⟨L',h1,h2,h3.later k⟩⟩
end
end

section
open Go.RowKit Go.Sort

theorem ptr_same (w:World) (x:Nat):(binOp .eql 94 (.pointer (some ⟨x,0,none⟩)) (.pointer (some ⟨x,0,none⟩))).run Tryz.prog w = .ok (.bool true) w:=by
  obtain ⟨j,hj⟩ : ∃ j,Tryz.prog.info? 40=some j:=Option.isSome_iff_exists.1 (by kernel_rfl)
  exact run_eql_ptr_same w _ (te:=40) Tryz.underlying94 hj

theorem ptr_other (w:World) (x y:Nat) (h:x≠y) (hx:Plain w x) (hy:Plain w y):(binOp .eql 94 (.pointer (some ⟨x,0,none⟩)) (.pointer (some ⟨y,0,none⟩))).run Tryz.prog w = .ok (.bool false) w:=by
  obtain ⟨j,hj,hz⟩ : ∃ j,Tryz.prog.info? 40=some j∧j.size≠0:=by
    have e:(Tryz.prog.info? 40).map (fun i=>i.size)=some 8:=by kernel_rfl
    cases q:Tryz.prog.info? 40 with
    | none=>rw [q] at e;cases e
    | some j =>
      rw [q] at e
      have e8:j.size=8:=by simpa using e
      exact ⟨j,rfl,by omega⟩
  obtain ⟨c1,t1,e1⟩:=hx
  obtain ⟨c2,t2,e2⟩:=hy
  exact run_eql_ptr_other w (te:=40) Tryz.underlying94 hj hz (fun q=>h (by injection q)) e1 e2

set_option maxHeartbeats 1000000 in
set_option maxRecDepth 100000 in
theorem index_any (w:World) (b n c x i:Nat) (zs:List Nat) (hn:zs.length=n) (h60:n≤1000000) (hc:∀ j (hj:j<zs.length),w.cell? ⟨b,j,none⟩=some (.pointer (some ⟨zs[j],0,none⟩))) (hp:∀ (j z:Nat),zs[j]? = some z→Plain w z) (hi:zs[i]? = some x) (hne:∀ j,j<i→zs[j]? ≠ some x) :
    Calls Tryz.prog 124 #[.slice (some ⟨b,0,none⟩) n c,.pointer (some ⟨x,0,none⟩)] w fun e w'=>e = .returned (.int .i64 i)∧w'=w:=by
  have hil:i<zs.length:=(List.getElem?_eq_some_iff.1 hi).1
  have HC:=hide hc
  have HN:=hide hne
  have HI:=hide hi
  have HP:=hide hp
  clear hc hne hi hp
  go_enter Tryz.func124,Tryz.ntmps124
  go_wp2
  go_loop [8] (fun k=>∃ j:Nat,j≤i∧k = .int .i64 j) (fun k=>i - (intOf k).toNat)
  case atStart=>exact ⟨0,Nat.zero_le _,rfl⟩
  case round =>
    obtain ⟨j,hj,rfl⟩:=hrel
    have hjn:(j:Int)<(n:Int):=by omega
    have hjz:j<zs.length:=by omega
    have cj:=HC.out j hjz
    by_cases e:j=i
    · subst e
      have ex:zs[j]=x:=by have:=HI.out;rw [List.getElem?_eq_getElem hjz] at this;simpa using this
      rw [ex] at cj
      clear ex
      have eq:=ptr_same w x
      go_wp2
      go_ret
      exact ⟨rfl,rfl⟩
    · have hx:zs[j]≠x:=fun q=>HN.out j (by omega) (by rw [List.getElem?_eq_getElem hjz,q])
      have eq:=ptr_other w x zs[j] (fun q=>hx q.symm) (HP.out i x HI.out) (HP.out j _ (List.getElem?_eq_getElem hjz))
      generalize zs[j]=y at *
      clear hx
      go_wp2
      refine ⟨⟨j+1,by omega,rfl⟩,?_⟩
      have e1:(intOf (.int .i64 ((j:Int)+1))).toNat=j+1:=by simp only [intOf];omega
      have e2:(intOf (.int .i64 (j:Int))).toNat=j:=by simp only [intOf];omega
      omega
end

end Go.Proofs.YtcfoobhihhndjaaGreat
