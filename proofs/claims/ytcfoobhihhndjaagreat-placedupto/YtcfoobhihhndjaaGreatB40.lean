
import Derived.BigQuiet
import Derived.Carry
import Derived.OpenShut
import Derived.StillTailTactics
import Derived.Test.YtcfoobhihhndjaaGreatB29
import Derived.Test.YtcfoobhihhndjaaGreatB39
namespace Go.Proofs.YtcfoobhihhndjaaGreat

section
open Go.RowKit Go.Sort

attribute [local go_sem] Oper.semAt_some
attribute [local irreducible] wpStill

structure Lv where
  p:Int
  q:Int
  n:Int

def Lv.cells (l:Lv):List Value:=[.int .i64 l.p,.int .i64 l.q,.int .i64 l.n]
def lvCells (l:List Lv):List Value:=l.flatMap Lv.cells

theorem lvCells_append (a b:List Lv):lvCells (a ++ b)=lvCells a ++ lvCells b:=by simp [lvCells]
theorem lvCells_length (a:List Lv):(lvCells a).length=a.length * 3:=by
  induction a with
  | nil=>rfl
  | cons x a ih=>simp only [lvCells,List.flatMap_cons,List.length_append] at ih ⊢;rw [ih];simp [Lv.cells];omega

def lvStep (gs:List Lv) (o:Od):List Lv :=
  match gs.getLast? with
  | none=>[⟨o.p,o.q,1⟩]
  | some l=>if l.p=o.p then gs.dropLast ++ [⟨l.p,l.q+o.q,l.n+1⟩] else gs ++ [⟨o.p,o.q,1⟩]
def lvL (os:List Od):List Lv:=os.foldl lvStep []

theorem lvL_snoc (os:List Od) (o:Od):lvL (os ++ [o])=lvStep (lvL os) o:=by unfold lvL;rw [List.foldl_append];rfl

theorem lvStep_bd {gs:List Lv} {o:Od} {k:Nat} (h:∀ l∈gs,(0≤l.q∧l.q≤10000 * (k:Int))∧(0≤l.n∧l.n≤k)) (hl:gs.length≤k) (hq:1≤o.q∧o.q≤10000):(∀ l∈lvStep gs o,(0≤l.q∧l.q≤10000 * ((k+1:Nat):Int))∧(0≤l.n∧l.n≤((k+1:Nat):Int)))∧(lvStep gs o).length≤k+1:=by
  have up:∀ l∈gs,(0≤l.q∧l.q≤10000 * ((k+1:Nat):Int))∧(0≤l.n∧l.n≤((k+1:Nat):Int)):=fun l hl=>by
    have:=h l hl
    omega
  unfold lvStep
  cases e:gs.getLast? with
  | none =>
    refine ⟨fun l hl=>?_,by simp⟩
    rw [List.mem_singleton.1 hl]
    simp only
    omega
  | some z =>
    have hz:=h z (List.mem_of_getLast? e)
    simp only
    by_cases ep:z.p=o.p
    · rw [if_pos ep]
      refine ⟨fun l hl=>?_,by simp;omega⟩
      rcases List.mem_append.1 hl with hl | hl
      · exact up l (List.dropLast_subset gs hl)
      · rw [List.mem_singleton.1 hl]
        simp only
        omega
    · rw [if_neg ep]
      refine ⟨fun l hl=>?_,by simp;omega⟩
      rcases List.mem_append.1 hl with hl | hl
      · exact up l hl
      · rw [List.mem_singleton.1 hl]
        simp only
        omega

theorem lvL_bd (os:List Od) (h:∀ o∈os,1≤o.q∧o.q≤10000):(∀ l∈lvL os,(0≤l.q∧l.q≤10000 * (os.length:Int))∧(0≤l.n∧l.n≤(os.length:Int)))∧(lvL os).length≤os.length:=by
  have gen:∀ k,k≤os.length→(∀ l∈lvL (os.take k),(0≤l.q∧l.q≤10000 * (k:Int))∧(0≤l.n∧l.n≤(k:Int)))∧(lvL (os.take k)).length≤k:=fun k=>by
    induction k with
    | zero=>intro _;refine ⟨fun l hl=>?_,by simp [lvL]⟩;simp [lvL] at hl
    | succ k ih =>
      intro hk
      have i:=ih (by omega)
      rw [List.take_add_one,List.getElem?_eq_getElem (by omega),Option.toList_some,lvL_snoc]
      exact lvStep_bd i.1 i.2 (h _ (List.getElem_mem _))
  have:=gen os.length (Nat.le_refl _)
  rwa [List.take_length] at this

theorem infoLevel:(Tryz.prog.info? 72).map (fun i=>(i.zero,i.size,i.bytes))=some (some (.agg #[.int .i64 0,.int .i64 0,.int .i64 0]),3,24):=by kernel_rfl

theorem Lv.oneCell' (l:Lv):∀ u,u∈l.cells→u.oneCell'=true:=by simp [Lv.cells,Value.oneCell']

theorem lvCells_set1 (gs:List Lv) (l:Lv) (u:Int):(lvCells (gs ++ [l])).set (gs.length * 3+1) (.int .i64 u)=lvCells (gs ++ [⟨l.p,u,l.n⟩]):=by
  rw [lvCells_append,lvCells_append,List.set_append_right _ _ (by rw [lvCells_length];omega),lvCells_length]
  simp [lvCells,Lv.cells]
theorem lvCells_set2 (gs:List Lv) (l:Lv) (u:Int):(lvCells (gs ++ [l])).set (gs.length * 3+2) (.int .i64 u)=lvCells (gs ++ [⟨l.p,l.q,u⟩]):=by
  rw [lvCells_append,lvCells_append,List.set_append_right _ _ (by rw [lvCells_length];omega),lvCells_length]
  simp [lvCells,Lv.cells]
theorem lvCells_last (gs:List Lv) (l:Lv) (j:Nat) (hj:j<3):(lvCells (gs ++ [l]))[gs.length * 3+j]? = l.cells[j]?:=by
  rw [lvCells_append,List.getElem?_append_right (by rw [lvCells_length];omega),lvCells_length]
  simp [lvCells]

def LvSt (w:World) (gs:List Lv) (W:World):Prop:=(∃ v,Boxed W w.heap.size 70 v∧W.ownsRow w.heap.size 72 3 v gs.length (lvCells gs)∧True)∧Below w.heap.size w W

theorem lv_own {β:Type} (B:Nat) (w:World) (f:β→List Lv) (hB:w.heap.size≤B):OwnFrom B (fun (s:β) W=>LvSt w (f s) W) :=
  OwnFrom.and (Own.from (holdsRow_own w.heap.size w.heap.size 70 72 3 (fun s=>(f s).length) (fun s=>lvCells (f s)) (fun _ _=>True)) _) (ownFrom_below (Nat.le_refl _) hB)

theorem lv_fin {w W V:World} {gs:List Lv} {l:Lv} {gb cap:Nat} (hv:Boxed V w.heap.size 70 (.slice (some ⟨gb,0,none⟩) (gs.length+1) cap)) (hr:V.ownsRow w.heap.size 72 3 (.slice (some ⟨gb,0,none⟩) (gs.length+1) cap) (gs.length+1) (lvCells (gs ++ [l]))) (ko:KeepsOthers W V) (kb:Below w.heap.size W V) (hB:Below w.heap.size w W) (q n:Int) :
    KeepsOthers W ((V.setCell ⟨gb,gs.length * 3+1,none⟩ (.int .i64 q)).setCell ⟨gb,gs.length * 3+2,none⟩ (.int .i64 n))∧Below w.heap.size W ((V.setCell ⟨gb,gs.length * 3+1,none⟩ (.int .i64 q)).setCell ⟨gb,gs.length * 3+2,none⟩ (.int .i64 n))∧LvSt w (gs ++ [⟨l.p,q,n⟩]) ((V.setCell ⟨gb,gs.length * 3+1,none⟩ (.int .i64 q)).setCell ⟨gb,gs.length * 3+2,none⟩ (.int .i64 n)):=by
  have lg:=(hr.lt gb rfl).1
  have hne:=hv.not_row (by decide) hr
  obtain ⟨r1,g1⟩:=hr.stored (gs.length * 3+1) (.int .i64 q)
  rw [lvCells_set1] at r1
  obtain ⟨r2,g2⟩:=r1.stored (gs.length * 3+2) (.int .i64 n)
  rw [lvCells_set2] at r2
  have b1:=hv.kept g1 hne
  have b2:=b1.kept g2 hne
  have kb2:=(kb.setCell (p:=⟨gb,gs.length * 3+1,none⟩) lg (.int .i64 q)).setCell (p:=⟨gb,gs.length * 3+2,none⟩) lg (.int .i64 n)
  exact ⟨(ko.trans (KeepsOthers.setCell _ _ _)).trans (KeepsOthers.setCell _ _ _),kb2,⟨_,b2,by simpa using r2,trivial⟩,hB.trans kb2⟩

theorem dropLast_of {gs:List Lv} {l:Lv} (h:gs.getLast? = some l):gs.dropLast ++ [l]=gs:=by
  have hne:gs≠[]:=fun e=>by rw [e] at h;cases h
  rw [List.getLast?_eq_some_getLast hne] at h
  have e:gs.getLast hne=l:=by simpa using h
  rw [← e]
  exact List.dropLast_concat_getLast hne

theorem meetsL {X:Act→World→Prop} {G:Prop} {F:Nat→Nat→World→Prop} {A:Nat→Nat→Act} {W:Nat→Nat→World→World} (ways:(∀ g c w1,F g c w1→X (A g c) (W g c w1))→G) (rest:∀ g c w1,F g c w1→X (A g c) (W g c w1)):G:=ways rest

set_option maxRecDepth 100000 in
set_option maxHeartbeats 4000000 in
theorem levels_any (w:World) (L:PL) (m:Mt) (N:Int) (R:PRep w L m) (ok:m.Ok N) (h g s:Nat) (q1:at3 m h g s) :
    Calls Tryz.prog 111 #[.pointer (some ⟨L.qb h g s,0,none⟩)] w fun e w'=>∃ v,e = .returned v∧w'.ownsRow w.heap.size 72 3 v (lvL (m.bk h g s)).length (lvCells (lvL (m.bk h g s)))∧Below w.heap.size w w'∧w.heap.size<w'.heap.size:=by
  have HR:=hide R
  have HO:=hide ok
  obtain ⟨i0,hi,hz0,hz1,hz2⟩:=info_parts infoLevel
  obtain ⟨qa,qc,hqv⟩:=R.qvform q1
  have HA:=hide (show ∀ W,Below w.heap.size w W→Calls Tryz.prog 118 #[.pointer (some ⟨L.qb h g s,0,none⟩)] W fun e w'=>e = .returned (.func (.func 143) #[] #[.pointer (some ⟨W.heap.size,0,none⟩)])∧w'=W.alloc (.cells #[.slice qa (L.ob h g s).length qc] 142) from fun W S =>
    all_any _ _ _ _ _ (by have:=((R.bel S).q1 h g s q1).cell;rwa [hqv] at this))
  have S0:LvSt w [] ((w.alloc (.cells #[.slice none 0 0] 70)).alloc (.cells #[.slice qa (L.ob h g s).length qc] 142)) :=
    ⟨⟨.slice none 0 0,(Boxed.new w 70 (.slice none 0 0)).alloc _,⟨rfl,.inl ⟨rfl,rfl⟩⟩,trivial⟩,((Below.refl _ w).alloc (Nat.le_refl _) _).alloc (by simp) _⟩
  have hcb:((w.alloc (.cells #[.slice none 0 0] 70)).alloc (.cells #[.slice qa (L.ob h g s).length qc] 142)).cell? ⟨w.heap.size+1,0,none⟩=some (.slice qa (L.ob h g s).length qc):=by
    simp
  have HB1:=hide (show Below w.heap.size w (w.alloc (.cells #[.slice none 0 0] 70)) from (Below.refl _ w).alloc (Nat.le_refl _) _)
  have hmx:=mixed
  clear R ok
  refine (callsIn_wide (n:=3)).1 ?_
  refine callsIn_of_wp_marks Tryz.func111 rfl trivial ?_ rfl
  simp only [Tryz.ntmps111,List.size_toArray,List.length_cons,List.length_nil,Nat.reduceAdd,Nat.reduceSub,Array.replicate_succ,Array.replicate_zero,List.push_toArray,List.append_toArray,List.nil_append,List.cons_append]
  refine wpIn_wide.2 ?_
  go_wp2_with (go_at_call 118;refine (HA.out _ HB1.out).mono ?_;rintro e w' ⟨rfl,rfl⟩)
  generalize (w.alloc (.cells #[.slice none 0 0] 70)).alloc (.cells #[.slice qa (L.ob h g s).length qc] 142)=wc at *
  obtain ⟨zs,hz1',hz2'⟩:=HR.out.seq HO.out q1
  have hp:Ptrs w.heap.size wc (.slice qa (L.ob h g s).length qc) (zs.map fun z=>z.1.1):=by
    have h0:=(HR.out.ptrs q1).below S0.2
    rw [hqv] at h0
    rw [hz1']
    exact h0
  have lwc:w.heap.size+1<wc.heap.size:=World.block_lt_of_cell? wc _ hcb
  have HZ2:=hide hz2'
  have hl60:zs.length≤60:=by
    have h0:=congrArg List.length hz2'
    rw [List.length_map] at h0
    have h1:=HO.out.a60
    have h2:=len_bk q1
    omega
  clear hz1' hz2' HA HB1
  refine (wpIn_wide (n:=3)).1 ?_
  refine wpIn_rangeFunc_ownG (F:=Fence.wide) (n:=3) rfl (by omega) (gf:=143) (lb:=#[.pointer (some ⟨w.heap.size+1,0,none⟩)]) rfl trivial (enters_of Tryz.func143 (by kernel_rfl) rfl)
    (values_stops (fun z:{ p:Nat × Od // Good w p.1 p.2 }=>z.1.1) Fence.wide 2 trivial rfl (by omega) (w.heap.size+1) w.heap.size (.slice qa (L.ob h g s).length qc) zs (by omega) _ lwc (by omega) hcb hp) belowK_t (belowK_b (by omega)) (Below.refl _ _) (fun _=>rfl)
    (fun pre W=>LvSt w (lvL (pre.map fun z=>z.1.2)) W)
    (fun _ _ _=>False)
    (lv_own _ w _ (by omega))
    (fun _ _ _ _ _ hs _ _=>hs)
    S0
    (fun x=>{ tmps:=#[.pointer (some ⟨L.qb h g s,0,none⟩),undef,.slice none 0 0,.pointer (some ⟨w.heap.size,0,none⟩),.pointer (some ⟨x.1.1,0,none⟩),undef,.pointer (some ⟨L.qb h g s,0,none⟩),.func (.func 143) #[] #[.pointer (some ⟨w.heap.size+1,0,none⟩)],.pointer (some ⟨x.1.1,0,none⟩),undef,undef,undef,undef,undef,undef,undef,undef,undef,undef,undef,undef,undef,undef,undef,undef,undef,undef,undef,undef,undef,undef,undef,undef,undef,undef,undef,undef,undef,undef,undef,undef,undef,undef,undef,undef,undef,undef,undef,undef,undef,undef,undef,undef,undef,undef,undef,undef,undef],defers:=[] })
    ?assign ?body ?done ?stop
  case assign =>
    intro l x W K hK
    gi_wp2
    exact hK
  case body =>
    rintro l pre x W ⟨⟨v,hv,hrow,_⟩,hB1⟩ hlt1
    have hbd:=lvL_bd (pre.map fun z=>z.1.2) (fun o ho=>by obtain ⟨z,_,rfl⟩:=List.mem_map.1 ho;exact z.2.2.2.2)
    rw [List.length_map] at hbd
    have hsn:Hid (lvL ((pre ++ [x]).map fun z=>z.1.2)=lvStep (lvL (pre.map fun z=>z.1.2)) x.1.2):=hide (by rw [List.map_append];exact lvL_snoc _ _)
    have hx:OdAt W x.1.1 x.1.2:=fun j v hv=>((x.2.1 j v hv).kep (Kep.of_below (S:=non) hB1) (fun q=>q))
    have o5:=(hx 5 _ rfl).cell
    have o6:=(hx 6 _ rfl).cell
    have bq:=x.2.2.2.2
    have HGd:=hide (fun W' (hB:Below w.heap.size w W')=>((x.2.1 6 _ rfl).kep (Kep.of_below (S:=non) hB) (fun q=>q)).cell)
    have hc:=hv.cell
    have hsz:=hB1.size
    obtain ⟨ra,rc,rfl⟩:=row_form hrow
    clear hx
    generalize lvL (pre.map fun z=>z.1.2)=gs at *
    have hgl:gs.length≤60:=by omega
    generalize x.1.1=b at *
    generalize x.1.2=z at *
    obtain ⟨V,hV,kV⟩ : ∃ V,V=W.drew∧Kep non W V:=⟨_,rfl,(Kep.refl _ _).drew⟩
    have o5V:=kV.cell o5 (fun f=>f)
    have o6V:=kV.cell o6 (fun f=>f)
    have hcV:=kV.cell hc (fun f=>f)
    have hvV:Boxed V w.heap.size 70 (.slice ra gs.length rc):=(kV.block _ hv.lt (fun f=>f)).trans hv
    have hrV:=ownsRow_kep hrow kV (fun _ _ f=>f)
    have HV:=hide hV
    have HKV:=hide kV
    clear hV kV
    have HBd:=hide hbd.1
    clear hbd
    rcases hgs:gs.getLast? with _ | lz
    · have HSt:=hide (show lvStep gs z=gs ++ [⟨z.p,z.q,1⟩] by unfold lvStep;rw [hgs,List.getLast?_eq_none_iff.1 hgs];simp)
      have e0:gs.length=0:=by rw [List.getLast?_eq_none_iff.1 hgs];rfl
      have HS0:=hide (And.intro hcV (And.intro hvV hrV))
      clear hrow hv hc hvV hrV hgs
      rw [e0] at hcV
      gi_wp2
      refine region_tail_in 16 (by kernel_rfl) (by kernel_rfl) (by kernel_rfl) V HV.out ?_
      intro Q' hQ'
      simp only [List.take_succ_cons,List.take_zero,List.drop_succ_cons,List.drop_zero]
      repeat still_step
      refine wpStill_nil ?_
      go_wp2
      clear hcV e0
      obtain ⟨hcV,hvV,hrV⟩:=HS0.out
      obtain ⟨V2,hV2,kV2⟩ : ∃ V2,V2=V.drew∧Kep non V V2:=⟨_,rfl,(Kep.refl _ _).drew⟩
      have o52:=kV2.cell o5V (fun f=>f)
      have hc2:=kV2.cell hcV (fun f=>f)
      have hv2:Boxed V2 w.heap.size 70 (.slice ra gs.length rc):=(kV2.block _ hvV.lt (fun f=>f)).trans hvV
      have hr2:=ownsRow_kep hrV kV2 (fun _ _ f=>f)
      have HV2:=hide hV2
      have sz2:=kV2.size
      have szV:=HKV.out.size
      clear hV2 kV2
      gi_wp2
      have hc2a:=((Kep.refl non V2).alloc (.cells #[.int .i64 z.p,.int .i64 0,.int .i64 0] 72)).cell hc2 (fun f=>f)
      rename_i Kc hKc
      have HKc:=hide hKc
      clear hKc
      apply meetsL (X:=Kc) (F:=fun g c w1=>Boxed (w1.setCell ⟨w.heap.size,0,none⟩ (.slice (some ⟨g,0,none⟩) (gs.length+1) c)) w.heap.size 70 (.slice (some ⟨g,0,none⟩) (gs.length+1) c)∧(w1.setCell ⟨w.heap.size,0,none⟩ (.slice (some ⟨g,0,none⟩) (gs.length+1) c)).ownsRow w.heap.size 72 3 (.slice (some ⟨g,0,none⟩) (gs.length+1) c) (gs.length+1) (lvCells (gs ++ [⟨z.p,0,0⟩]))∧KeepsOthers V2 (w1.setCell ⟨w.heap.size,0,none⟩ (.slice (some ⟨g,0,none⟩) (gs.length+1) c))∧Below w.heap.size V2 (w1.setCell ⟨w.heap.size,0,none⟩ (.slice (some ⟨g,0,none⟩) (gs.length+1) c))) (W:=fun g c w1=>w1.setCell ⟨w.heap.size,0,none⟩ (.slice (some ⟨g,0,none⟩) (gs.length+1) c))
      case ways =>
        intro hX
        refine region_any_in (by kernel_rfl) (by kernel_rfl) ?_
        intro Q' hQ' hPn
        rw [← HV2.out]
        refine wpAny_take (i:=1) (v:=.pointer (some ⟨b,0,none⟩)) rfl (by kernel_rfl) (by kernel_rfl) (by kernel_rfl) (fun c a w f=>absurd f (hPn c _ _)) (Or.inl ⟨by rfl,fun w=>by go_simp⟩) ?_
        refine wpAny_take (i:=2) (v:=.pointer (some ⟨b,0,none⟩)) rfl (by kernel_rfl) (by kernel_rfl) (by kernel_rfl) (fun c a w f=>absurd f (hPn c _ _)) (Or.inl ⟨by rfl,fun w=>by go_simp⟩) ?_
        refine wpAny_take (i:=3) (v:=.pointer (some ⟨b,5,none⟩)) rfl (by kernel_rfl) (by kernel_rfl) (by kernel_rfl) (fun c a w f=>absurd f (hPn c _ _)) (Or.inl ⟨by rfl,fun w=>by go_simp⟩) ?_
        refine wpAny_ready (rs:=[0,4]) (by kernel_rfl) (by simp) ?_
        refine AllReady.cons rfl (fun K hK=>?_) ?_
        · go_simp
          refine hK _ _ ?_
          clear hK K
          refine wpAny_ready (rs:=[4]) (by kernel_rfl) (by simp) ?_
          refine AllReady.cons rfl (fun K hK=>?_) AllReady.nil
          go_simp
          refine hK _ _ ?_
          clear hK K
          refine wpAny_take (i:=5) (v:=.agg #[.int .i64 z.p,.int .i64 0,.int .i64 0]) rfl (by kernel_rfl) (by kernel_rfl) (by kernel_rfl) (fun c a w f=>absurd f (hPn c _ _)) (Or.inl ⟨by rfl,fun w=>by go_simp⟩) ?_
          refine wpAny_ready (rs:=[6]) (by kernel_rfl) (by simp) ?_
          refine AllReady.cons rfl (fun K hK=>?_) AllReady.nil
          go_simp
          refine hK _ _ ?_
          clear hK K
          refine wpAny_ready (rs:=[7]) (by kernel_rfl) (by simp) ?_
          refine AllReady.cons rfl (fun K hK=>?_) AllReady.nil
          refine step_append_lies _ rfl _ _ _ rfl w.heap.size 72 i0 _ 3 24 Tryz.underlying70 hi hz0 hz1 hz2 rfl (by omega) (.slice ra gs.length rc) gs.length (lvCells gs) rfl (by exact hr2.alloc _) ⟨V2.heap.size,0,none⟩ 1 1 (Lv.cells ⟨z.p,0,0⟩) rfl rfl (by exact news_of_last' #[_,_,_] 72 (by simp)) (Lv.oneCell' _) (by omega) (by simp only [maxLen];omega) (by omega) (by simp;omega) (V2.heap.size+1) (by simp) ?_
          intro gg cap w1 hown1 hgrow hat hlt1
          obtain ⟨hv1,hv3,hr3,hk3,hb3⟩:=hv2.appended (by decide) hr2 (by omega) (Nat.le_refl _) hown1 hgrow
          have hc1:=hv1.cell
          have hf1:=hv1.frozen
          go_simp
          refine hK _ _ ?_
          clear hK K
          refine wpAny_ready (rs:=[8]) (by kernel_rfl) (by simp) ?_
          refine AllReady.cons rfl (fun K hK=>?_) AllReady.nil
          go_simp
          refine hK _ _ ?_
          clear hK K
          refine wpAny_done (by kernel_rfl) ?_ _
          exact hQ' _ _ (hX gg cap w1 ⟨hv3,by rw [lvCells_append];simpa [lvCells] using hr3,hk3,hb3⟩)
        refine AllReady.cons rfl (fun K hK=>?_) AllReady.nil
        go_simp
        refine hK _ _ ?_
        clear hK K
        refine wpAny_take (i:=5) (v:=.agg #[.int .i64 z.p,.int .i64 0,.int .i64 0]) rfl (by kernel_rfl) (by kernel_rfl) (by kernel_rfl) (fun c a w f=>absurd f (hPn c _ _)) (Or.inl ⟨by rfl,fun w=>by go_simp⟩) ?_
        refine wpAny_ready (rs:=[0,6]) (by kernel_rfl) (by simp) ?_
        refine AllReady.cons rfl (fun K hK=>?_) ?_
        · go_simp
          refine hK _ _ ?_
          clear hK K
          refine wpAny_ready (rs:=[6]) (by kernel_rfl) (by simp) ?_
          refine AllReady.cons rfl (fun K hK=>?_) AllReady.nil
          go_simp
          refine hK _ _ ?_
          clear hK K
          refine wpAny_ready (rs:=[7]) (by kernel_rfl) (by simp) ?_
          refine AllReady.cons rfl (fun K hK=>?_) AllReady.nil
          refine step_append_lies _ rfl _ _ _ rfl w.heap.size 72 i0 _ 3 24 Tryz.underlying70 hi hz0 hz1 hz2 rfl (by omega) (.slice ra gs.length rc) gs.length (lvCells gs) rfl (by exact hr2.alloc _) ⟨V2.heap.size,0,none⟩ 1 1 (Lv.cells ⟨z.p,0,0⟩) rfl rfl (by exact news_of_last' #[_,_,_] 72 (by simp)) (Lv.oneCell' _) (by omega) (by simp only [maxLen];omega) (by omega) (by simp;omega) (V2.heap.size+1) (by simp) ?_
          intro gg cap w1 hown1 hgrow hat hlt1
          obtain ⟨hv1,hv3,hr3,hk3,hb3⟩:=hv2.appended (by decide) hr2 (by omega) (Nat.le_refl _) hown1 hgrow
          have hc1:=hv1.cell
          have hf1:=hv1.frozen
          go_simp
          refine hK _ _ ?_
          clear hK K
          refine wpAny_ready (rs:=[8]) (by kernel_rfl) (by simp) ?_
          refine AllReady.cons rfl (fun K hK=>?_) AllReady.nil
          go_simp
          refine hK _ _ ?_
          clear hK K
          refine wpAny_done (by kernel_rfl) ?_ _
          exact hQ' _ _ (hX gg cap w1 ⟨hv3,by rw [lvCells_append];simpa [lvCells] using hr3,hk3,hb3⟩)
        refine AllReady.cons rfl (fun K hK=>?_) AllReady.nil
        go_simp
        refine hK _ _ ?_
        clear hK K
        refine wpAny_ready (rs:=[0]) (by kernel_rfl) (by simp) ?_
        refine AllReady.cons rfl (fun K hK=>?_) AllReady.nil
        go_simp
        refine hK _ _ ?_
        clear hK K
        refine wpAny_ready (rs:=[7]) (by kernel_rfl) (by simp) ?_
        refine AllReady.cons rfl (fun K hK=>?_) AllReady.nil
        refine step_append_lies _ rfl _ _ _ rfl w.heap.size 72 i0 _ 3 24 Tryz.underlying70 hi hz0 hz1 hz2 rfl (by omega) (.slice ra gs.length rc) gs.length (lvCells gs) rfl (by exact hr2.alloc _) ⟨V2.heap.size,0,none⟩ 1 1 (Lv.cells ⟨z.p,0,0⟩) rfl rfl (by exact news_of_last' #[_,_,_] 72 (by simp)) (Lv.oneCell' _) (by omega) (by simp only [maxLen];omega) (by omega) (by simp;omega) (V2.heap.size+1) (by simp) ?_
        intro gg cap w1 hown1 hgrow hat hlt1
        obtain ⟨hv1,hv3,hr3,hk3,hb3⟩:=hv2.appended (by decide) hr2 (by omega) (Nat.le_refl _) hown1 hgrow
        have hc1:=hv1.cell
        have hf1:=hv1.frozen
        go_simp
        refine hK _ _ ?_
        clear hK K
        refine wpAny_ready (rs:=[8]) (by kernel_rfl) (by simp) ?_
        refine AllReady.cons rfl (fun K hK=>?_) AllReady.nil
        go_simp
        refine hK _ _ ?_
        clear hK K
        refine wpAny_done (by kernel_rfl) ?_ _
        exact hQ' _ _ (hX gg cap w1 ⟨hv3,by rw [lvCells_append];simpa [lvCells] using hr3,hk3,hb3⟩)
      intro gb cap w1 ⟨hv5,hr5,ko5,kb5⟩
      refine HKc.out _ _ ?_
      have ko5:=((show KeepsOthers W V by rw [HV.out];exact KeepsOthers.drew _).trans (show KeepsOthers V V2 by rw [HV2.out];exact KeepsOthers.drew _)).trans ko5
      have kb5:=((show Below w.heap.size W V by rw [HV.out];exact (Below.refl _ _).drew).trans (show Below w.heap.size V V2 by rw [HV2.out];exact (Below.refl _ _).drew)).trans kb5
      clear hc2a hc2 hv2 hr2 o52 hcV hvV hrV o5V o6V o5 o6 HV HV2 HKV sz2 szV HKc HS0
      generalize w1.setCell ⟨w.heap.size,0,none⟩ (.slice (some ⟨gb,0,none⟩) (gs.length+1) cap)=W5 at *
      obtain ⟨V6,hV6,k6⟩ : ∃ V6,V6=W5.drew∧Kep non W5 V6:=⟨_,rfl,(Kep.refl _ _).drew⟩
      have hv6:Boxed V6 w.heap.size 70 (.slice (some ⟨gb,0,none⟩) (gs.length+1) cap):=(k6.block _ hv5.lt (fun f=>f)).trans hv5
      have hr6:=ownsRow_kep hr5 k6 (fun _ _ f=>f)
      have ko6:=ko5.trans (show KeepsOthers W5 V6 by rw [hV6];exact KeepsOthers.drew _)
      have kb6:=kb5.trans (show Below w.heap.size W5 V6 by rw [hV6];exact (Below.refl _ _).drew)
      have HFn:=hide (lv_fin hv6 hr6 ko6 kb6 hB1 z.q 1)
      have c50:=hv5.cell
      have g1:V6.cell? ⟨gb,gs.length * 3+1,none⟩=some (.int .i64 (⟨z.p,0,0⟩ : Lv).q):=by rw [hr6.cellAt _ (by omega),lvCells_last _ _ 1 (by omega)];rfl
      have g2:V6.cell? ⟨gb,gs.length * 3+2,none⟩=some (.int .i64 (⟨z.p,0,0⟩ : Lv).n):=by rw [hr6.cellAt _ (by omega),lvCells_last _ _ 2 (by omega)];rfl
      have f1:=hr6.frozenAt (gs.length * 3+1)
      have f2:=hr6.frozenAt (gs.length * 3+2)
      have o66:=k6.cell (HGd.out W5 (hB1.trans kb5)) (fun f=>f)
      have HV6:=hide hV6
      clear hv5 hr5 ko5 kb5 hv6 hr6 ko6 kb6 hV6 k6 HGd
      gi_wp2
      refine region_tail_in 11 (by kernel_rfl) (by kernel_rfl) (by kernel_rfl) V6 HV6.out ?_
      intro Q' hQ'
      simp only [List.take_succ_cons,List.take_zero,List.drop_succ_cons,List.drop_zero]
      repeat still_step
      refine wpStill_nil ?_
      go_wp2
      gi_wp2
      refine ⟨HFn.out.1.from _,HFn.out.2.1,?_⟩
      show LvSt w (lvL ((pre ++ [x]).map fun z=>z.1.2)) _
      rw [hsn.out,HSt.out]
      exact HFn.out.2.2
    · obtain ⟨gs0,hg0⟩ : ∃ gs0,gs=gs0 ++ [lz]:=⟨gs.dropLast,(dropLast_of hgs).symm⟩
      have el:gs.length=gs0.length+1:=by rw [hg0];simp
      obtain ⟨gb0,gc0,hv0,_,_⟩:=hrV.form (by omega)
      simp only [Value.slice.injEq,true_and] at hv0
      obtain ⟨rfl,rfl⟩:=hv0
      have gp:V.cell? ⟨gb0,gs0.length * 3,none⟩=some (.int .i64 lz.p):=by
        have h1:=hrV.cellAt (gs0.length * 3+0) (by omega)
        rw [hg0,lvCells_last _ _ 0 (by omega)] at h1
        exact h1
      have ez:((gs0.length:Int)+1 == 0)=false:=beq_eq_false_iff_ne.2 (by omega)
      have ew:IntKind.i64.wrap (gs0.length:Int)=(gs0.length:Int):=by rw [IntKind.wrap_i64];omega
      have el1:(gs0.length:Int)<(gs0.length:Int)+1:=by omega
      have hzb:=HBd.out lz (by rw [hg0];simp)
      have HS0:=hide (And.intro hcV (And.intro hvV hrV))
      by_cases ep:lz.p=z.p
      · have HSt:=hide (show lvStep gs z=gs0 ++ [⟨lz.p,lz.q+z.q,lz.n+1⟩] by unfold lvStep;rw [hgs];simp only;rw [if_pos ep,hg0];simp)
        rw [ep] at gp
        have HEp:=hide ep
        clear hrow hv hc hvV hrV hgs ep
        rw [el] at hcV
        gi_wp2
        refine region_tail_in 16 (by kernel_rfl) (by kernel_rfl) (by kernel_rfl) V HV.out ?_
        intro Q' hQ'
        simp only [List.take_succ_cons,List.take_zero,List.drop_succ_cons,List.drop_zero]
        repeat still_step
        refine wpStill_nil ?_
        go_wp2
        gi_wp2
        obtain ⟨_,hv5,hr5⟩:=HS0.out
        rw [el] at hv5 hr5
        rw [hg0] at hr5
        have ko5:=(show KeepsOthers W V by rw [HV.out];exact KeepsOthers.drew _)
        have kb5:=(show Below w.heap.size W V by rw [HV.out];exact (Below.refl _ _).drew)
        clear hcV o5V o6V o5 o6 HKV HS0 gp el hg0 ez HV
        obtain ⟨V6,hV6,k6⟩ : ∃ V6,V6=V.drew∧Kep non V V6:=⟨_,rfl,(Kep.refl _ _).drew⟩
        have hv6:Boxed V6 w.heap.size 70 (.slice (some ⟨gb0,0,none⟩) (gs0.length+1) rc):=(k6.block _ hv5.lt (fun f=>f)).trans hv5
        have hr6:=ownsRow_kep hr5 k6 (fun _ _ f=>f)
        have ko6:=ko5.trans (show KeepsOthers V V6 by rw [hV6];exact KeepsOthers.drew _)
        have kb6:=kb5.trans (show Below w.heap.size V V6 by rw [hV6];exact (Below.refl _ _).drew)
        have HFn:=hide (lv_fin hv6 hr6 ko6 kb6 hB1 (lz.q+z.q) (lz.n+1))
        have c50:=hv5.cell
        have g1:V6.cell? ⟨gb0,gs0.length * 3+1,none⟩=some (.int .i64 lz.q):=by rw [hr6.cellAt _ (by omega),lvCells_last _ _ 1 (by omega)];rfl
        have g2:V6.cell? ⟨gb0,gs0.length * 3+2,none⟩=some (.int .i64 lz.n):=by rw [hr6.cellAt _ (by omega),lvCells_last _ _ 2 (by omega)];rfl
        have f1:=hr6.frozenAt (gs0.length * 3+1)
        have f2:=hr6.frozenAt (gs0.length * 3+2)
        have o66:=k6.cell (HGd.out V (hB1.trans kb5)) (fun f=>f)
        have HV6:=hide hV6
        clear hv5 hr5 ko5 kb5 hv6 hr6 ko6 kb6 hV6 k6 HGd
        gi_wp2
        refine region_tail_in 11 (by kernel_rfl) (by kernel_rfl) (by kernel_rfl) V6 HV6.out ?_
        intro Q' hQ'
        simp only [List.take_succ_cons,List.take_zero,List.drop_succ_cons,List.drop_zero]
        repeat still_step
        refine wpStill_nil ?_
        go_wp2
        gi_wp2
        refine ⟨HFn.out.1.from _,HFn.out.2.1,?_⟩
        show LvSt w (lvL ((pre ++ [x]).map fun z=>z.1.2)) _
        rw [hsn.out,HSt.out]
        exact HFn.out.2.2
      · have HSt:=hide (show lvStep gs z=gs ++ [⟨z.p,z.q,1⟩] by unfold lvStep;rw [hgs];simp only;rw [if_neg ep])
        have ep':(lz.p != z.p)=true:=by simpa using ep
        clear hrow hv hc hvV hrV hgs ep
        rw [el] at hcV
        gi_wp2
        refine region_tail_in 16 (by kernel_rfl) (by kernel_rfl) (by kernel_rfl) V HV.out ?_
        intro Q' hQ'
        simp only [List.take_succ_cons,List.take_zero,List.drop_succ_cons,List.drop_zero]
        repeat still_step
        refine wpStill_nil ?_
        go_wp2
        clear hcV el ep' gp hg0 hzb
        obtain ⟨hcV,hvV,hrV⟩:=HS0.out
        obtain ⟨V2,hV2,kV2⟩ : ∃ V2,V2=V.drew∧Kep non V V2:=⟨_,rfl,(Kep.refl _ _).drew⟩
        have o52:=kV2.cell o5V (fun f=>f)
        have hc2:=kV2.cell hcV (fun f=>f)
        have hv2:Boxed V2 w.heap.size 70 (.slice (some ⟨gb0,0,none⟩) gs.length rc):=(kV2.block _ hvV.lt (fun f=>f)).trans hvV
        have hr2:=ownsRow_kep hrV kV2 (fun _ _ f=>f)
        have HV2:=hide hV2
        have sz2:=kV2.size
        have szV:=HKV.out.size
        clear hV2 kV2
        gi_wp2
        have hc2a:=((Kep.refl non V2).alloc (.cells #[.int .i64 z.p,.int .i64 0,.int .i64 0] 72)).cell hc2 (fun f=>f)
        rename_i Kc hKc
        have HKc:=hide hKc
        clear hKc
        apply meetsL (X:=Kc) (F:=fun g c w1=>Boxed (w1.setCell ⟨w.heap.size,0,none⟩ (.slice (some ⟨g,0,none⟩) (gs.length+1) c)) w.heap.size 70 (.slice (some ⟨g,0,none⟩) (gs.length+1) c)∧(w1.setCell ⟨w.heap.size,0,none⟩ (.slice (some ⟨g,0,none⟩) (gs.length+1) c)).ownsRow w.heap.size 72 3 (.slice (some ⟨g,0,none⟩) (gs.length+1) c) (gs.length+1) (lvCells (gs ++ [⟨z.p,0,0⟩]))∧KeepsOthers V2 (w1.setCell ⟨w.heap.size,0,none⟩ (.slice (some ⟨g,0,none⟩) (gs.length+1) c))∧Below w.heap.size V2 (w1.setCell ⟨w.heap.size,0,none⟩ (.slice (some ⟨g,0,none⟩) (gs.length+1) c))) (W:=fun g c w1=>w1.setCell ⟨w.heap.size,0,none⟩ (.slice (some ⟨g,0,none⟩) (gs.length+1) c))
        case ways =>
          intro hX
          refine region_any_in (by kernel_rfl) (by kernel_rfl) ?_
          intro Q' hQ' hPn
          rw [← HV2.out]
          refine wpAny_take (i:=1) (v:=.pointer (some ⟨b,0,none⟩)) rfl (by kernel_rfl) (by kernel_rfl) (by kernel_rfl) (fun c a w f=>absurd f (hPn c _ _)) (Or.inl ⟨by rfl,fun w=>by go_simp⟩) ?_
          refine wpAny_take (i:=2) (v:=.pointer (some ⟨b,0,none⟩)) rfl (by kernel_rfl) (by kernel_rfl) (by kernel_rfl) (fun c a w f=>absurd f (hPn c _ _)) (Or.inl ⟨by rfl,fun w=>by go_simp⟩) ?_
          refine wpAny_take (i:=3) (v:=.pointer (some ⟨b,5,none⟩)) rfl (by kernel_rfl) (by kernel_rfl) (by kernel_rfl) (fun c a w f=>absurd f (hPn c _ _)) (Or.inl ⟨by rfl,fun w=>by go_simp⟩) ?_
          refine wpAny_ready (rs:=[0,4]) (by kernel_rfl) (by simp) ?_
          refine AllReady.cons rfl (fun K hK=>?_) ?_
          · go_simp
            refine hK _ _ ?_
            clear hK K
            refine wpAny_ready (rs:=[4]) (by kernel_rfl) (by simp) ?_
            refine AllReady.cons rfl (fun K hK=>?_) AllReady.nil
            go_simp
            refine hK _ _ ?_
            clear hK K
            refine wpAny_take (i:=5) (v:=.agg #[.int .i64 z.p,.int .i64 0,.int .i64 0]) rfl (by kernel_rfl) (by kernel_rfl) (by kernel_rfl) (fun c a w f=>absurd f (hPn c _ _)) (Or.inl ⟨by rfl,fun w=>by go_simp⟩) ?_
            refine wpAny_ready (rs:=[6]) (by kernel_rfl) (by simp) ?_
            refine AllReady.cons rfl (fun K hK=>?_) AllReady.nil
            go_simp
            refine hK _ _ ?_
            clear hK K
            refine wpAny_ready (rs:=[7]) (by kernel_rfl) (by simp) ?_
            refine AllReady.cons rfl (fun K hK=>?_) AllReady.nil
            refine step_append_lies _ rfl _ _ _ rfl w.heap.size 72 i0 _ 3 24 Tryz.underlying70 hi hz0 hz1 hz2 rfl (by omega) (.slice (some ⟨gb0,0,none⟩) gs.length rc) gs.length (lvCells gs) rfl (by exact hr2.alloc _) ⟨V2.heap.size,0,none⟩ 1 1 (Lv.cells ⟨z.p,0,0⟩) rfl rfl (by exact news_of_last' #[_,_,_] 72 (by simp)) (Lv.oneCell' _) (by omega) (by simp only [maxLen];omega) (by omega) (by simp;omega) (V2.heap.size+1) (by simp) ?_
            intro gg cap w1 hown1 hgrow hat hlt1
            obtain ⟨hv1,hv3,hr3,hk3,hb3⟩:=hv2.appended (by decide) hr2 (by omega) (Nat.le_refl _) hown1 hgrow
            have hc1:=hv1.cell
            have hf1:=hv1.frozen
            go_simp
            refine hK _ _ ?_
            clear hK K
            refine wpAny_ready (rs:=[8]) (by kernel_rfl) (by simp) ?_
            refine AllReady.cons rfl (fun K hK=>?_) AllReady.nil
            go_simp
            refine hK _ _ ?_
            clear hK K
            refine wpAny_done (by kernel_rfl) ?_ _
            exact hQ' _ _ (hX gg cap w1 ⟨hv3,by rw [lvCells_append];simpa [lvCells] using hr3,hk3,hb3⟩)
          refine AllReady.cons rfl (fun K hK=>?_) AllReady.nil
          go_simp
          refine hK _ _ ?_
          clear hK K
          refine wpAny_take (i:=5) (v:=.agg #[.int .i64 z.p,.int .i64 0,.int .i64 0]) rfl (by kernel_rfl) (by kernel_rfl) (by kernel_rfl) (fun c a w f=>absurd f (hPn c _ _)) (Or.inl ⟨by rfl,fun w=>by go_simp⟩) ?_
          refine wpAny_ready (rs:=[0,6]) (by kernel_rfl) (by simp) ?_
          refine AllReady.cons rfl (fun K hK=>?_) ?_
          · go_simp
            refine hK _ _ ?_
            clear hK K
            refine wpAny_ready (rs:=[6]) (by kernel_rfl) (by simp) ?_
            refine AllReady.cons rfl (fun K hK=>?_) AllReady.nil
            go_simp
            refine hK _ _ ?_
            clear hK K
            refine wpAny_ready (rs:=[7]) (by kernel_rfl) (by simp) ?_
            refine AllReady.cons rfl (fun K hK=>?_) AllReady.nil
            refine step_append_lies _ rfl _ _ _ rfl w.heap.size 72 i0 _ 3 24 Tryz.underlying70 hi hz0 hz1 hz2 rfl (by omega) (.slice (some ⟨gb0,0,none⟩) gs.length rc) gs.length (lvCells gs) rfl (by exact hr2.alloc _) ⟨V2.heap.size,0,none⟩ 1 1 (Lv.cells ⟨z.p,0,0⟩) rfl rfl (by exact news_of_last' #[_,_,_] 72 (by simp)) (Lv.oneCell' _) (by omega) (by simp only [maxLen];omega) (by omega) (by simp;omega) (V2.heap.size+1) (by simp) ?_
            intro gg cap w1 hown1 hgrow hat hlt1
            obtain ⟨hv1,hv3,hr3,hk3,hb3⟩:=hv2.appended (by decide) hr2 (by omega) (Nat.le_refl _) hown1 hgrow
            have hc1:=hv1.cell
            have hf1:=hv1.frozen
            go_simp
            refine hK _ _ ?_
            clear hK K
            refine wpAny_ready (rs:=[8]) (by kernel_rfl) (by simp) ?_
            refine AllReady.cons rfl (fun K hK=>?_) AllReady.nil
            go_simp
            refine hK _ _ ?_
            clear hK K
            refine wpAny_done (by kernel_rfl) ?_ _
            exact hQ' _ _ (hX gg cap w1 ⟨hv3,by rw [lvCells_append];simpa [lvCells] using hr3,hk3,hb3⟩)
          refine AllReady.cons rfl (fun K hK=>?_) AllReady.nil
          go_simp
          refine hK _ _ ?_
          clear hK K
          refine wpAny_ready (rs:=[0]) (by kernel_rfl) (by simp) ?_
          refine AllReady.cons rfl (fun K hK=>?_) AllReady.nil
          go_simp
          refine hK _ _ ?_
          clear hK K
          refine wpAny_ready (rs:=[7]) (by kernel_rfl) (by simp) ?_
          refine AllReady.cons rfl (fun K hK=>?_) AllReady.nil
          refine step_append_lies _ rfl _ _ _ rfl w.heap.size 72 i0 _ 3 24 Tryz.underlying70 hi hz0 hz1 hz2 rfl (by omega) (.slice (some ⟨gb0,0,none⟩) gs.length rc) gs.length (lvCells gs) rfl (by exact hr2.alloc _) ⟨V2.heap.size,0,none⟩ 1 1 (Lv.cells ⟨z.p,0,0⟩) rfl rfl (by exact news_of_last' #[_,_,_] 72 (by simp)) (Lv.oneCell' _) (by omega) (by simp only [maxLen];omega) (by omega) (by simp;omega) (V2.heap.size+1) (by simp) ?_
          intro gg cap w1 hown1 hgrow hat hlt1
          obtain ⟨hv1,hv3,hr3,hk3,hb3⟩:=hv2.appended (by decide) hr2 (by omega) (Nat.le_refl _) hown1 hgrow
          have hc1:=hv1.cell
          have hf1:=hv1.frozen
          go_simp
          refine hK _ _ ?_
          clear hK K
          refine wpAny_ready (rs:=[8]) (by kernel_rfl) (by simp) ?_
          refine AllReady.cons rfl (fun K hK=>?_) AllReady.nil
          go_simp
          refine hK _ _ ?_
          clear hK K
          refine wpAny_done (by kernel_rfl) ?_ _
          exact hQ' _ _ (hX gg cap w1 ⟨hv3,by rw [lvCells_append];simpa [lvCells] using hr3,hk3,hb3⟩)
        intro gb cap w1 ⟨hv5,hr5,ko5,kb5⟩
        refine HKc.out _ _ ?_
        have ko5:=((show KeepsOthers W V by rw [HV.out];exact KeepsOthers.drew _).trans (show KeepsOthers V V2 by rw [HV2.out];exact KeepsOthers.drew _)).trans ko5
        have kb5:=((show Below w.heap.size W V by rw [HV.out];exact (Below.refl _ _).drew).trans (show Below w.heap.size V V2 by rw [HV2.out];exact (Below.refl _ _).drew)).trans kb5
        clear hc2a hc2 hv2 hr2 o52 hcV hvV hrV o5V o6V o5 o6 HV HV2 HKV sz2 szV HKc HS0
        generalize w1.setCell ⟨w.heap.size,0,none⟩ (.slice (some ⟨gb,0,none⟩) (gs.length+1) cap)=W5 at *
        obtain ⟨V6,hV6,k6⟩ : ∃ V6,V6=W5.drew∧Kep non W5 V6:=⟨_,rfl,(Kep.refl _ _).drew⟩
        have hv6:Boxed V6 w.heap.size 70 (.slice (some ⟨gb,0,none⟩) (gs.length+1) cap):=(k6.block _ hv5.lt (fun f=>f)).trans hv5
        have hr6:=ownsRow_kep hr5 k6 (fun _ _ f=>f)
        have ko6:=ko5.trans (show KeepsOthers W5 V6 by rw [hV6];exact KeepsOthers.drew _)
        have kb6:=kb5.trans (show Below w.heap.size W5 V6 by rw [hV6];exact (Below.refl _ _).drew)
        have HFn:=hide (lv_fin hv6 hr6 ko6 kb6 hB1 z.q 1)
        have c50:=hv5.cell
        have g1:V6.cell? ⟨gb,gs.length * 3+1,none⟩=some (.int .i64 (⟨z.p,0,0⟩ : Lv).q):=by rw [hr6.cellAt _ (by omega),lvCells_last _ _ 1 (by omega)];rfl
        have g2:V6.cell? ⟨gb,gs.length * 3+2,none⟩=some (.int .i64 (⟨z.p,0,0⟩ : Lv).n):=by rw [hr6.cellAt _ (by omega),lvCells_last _ _ 2 (by omega)];rfl
        have f1:=hr6.frozenAt (gs.length * 3+1)
        have f2:=hr6.frozenAt (gs.length * 3+2)
        have o66:=k6.cell (HGd.out W5 (hB1.trans kb5)) (fun f=>f)
        have HV6:=hide hV6
        clear hv5 hr5 ko5 kb5 hv6 hr6 ko6 kb6 hV6 k6 HGd
        gi_wp2
        refine region_tail_in 11 (by kernel_rfl) (by kernel_rfl) (by kernel_rfl) V6 HV6.out ?_
        intro Q' hQ'
        simp only [List.take_succ_cons,List.take_zero,List.drop_succ_cons,List.drop_zero]
        repeat still_step
        refine wpStill_nil ?_
        go_wp2
        gi_wp2
        refine ⟨HFn.out.1.from _,HFn.out.2.1,?_⟩
        show LvSt w (lvL ((pre ++ [x]).map fun z=>z.1.2)) _
        rw [hsn.out,HSt.out]
        exact HFn.out.2.2
  case done =>
    rintro D ys W hD rfl ⟨⟨v,hv,hrow,_⟩,hB1⟩ hK
    have hc:=hv.cell
    have HZ:=hide (congrArg lvL HZ2.out)
    go_wp2
    refine ⟨by simp,.inl ⟨_,_,rfl,run_takeDeferred hK,?_⟩⟩
    rw [← HZ.out]
    exact ⟨_,results_tmp rfl _ _ _,v,rfl,ownsRow_putObj hrow _ hK rfl,hB1.trans (belowK_b (w:=w) (Nat.le_refl _) W D _ _ (by omega) hK rfl rfl),by have:=hv.lt;simpa using this⟩
  case stop =>
    rintro D c pre W _ _ h _
    exact h.elim
end

end Go.Proofs.YtcfoobhihhndjaaGreat
