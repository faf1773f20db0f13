
import Derived.BigQuiet
import Derived.Deep.AppendLies
import Derived.Deep.Cut
import Derived.Deep.QuietTactic
import Derived.Lib.QuietBelow
import Derived.Shelf.Spec.SlicesInsertGrow
import Derived.Test.YtcfoobhihhndjaaGreatB02
import Derived.Test.YtcfoobhihhndjaaGreatB03
namespace Go.Proofs.YtcfoobhihhndjaaGreat

section
open Go.RowKit Go.Sort

def InsPost (w:World) (v:Value) (n:Nat) (ys:List Nat) (e:Ending) (w':World):Prop :=
  ∃ g cap,e = .returned (.slice (some ⟨g,0,none⟩) (n+1) cap)∧w'.ownsRow 0 94 1 (.slice (some ⟨g,0,none⟩) (n+1) cap) (n+1) (ys.map optr)∧Kep (fun b=>v.ownBlock=some b) w w'∧(v.ownBlock=some g∨w.heap.size≤g)

theorem insert_end_post {w w1:World} {v:Value} {n x g cap:Nat} {zs:List Nat} (H1:w1.ownsRow 0 94 1 (.slice (some ⟨g,0,none⟩) (n+1) cap) (n+1) (zs.map optr ++ [optr x])) (H2:w.grownBy w1 v.ownBlock) (H3:v.ownBlock=some g∨g=w.heap.size) :
    InsPost w v n (zs ++ [x]) (.returned (.slice (some ⟨g,0,none⟩) (n+1) cap)) w1:=by
  refine ⟨g,cap,rfl,by simpa using H1,(Kep.refl _ w).grown H2 (fun k hk=>.inl hk),?_⟩
  rcases H3 with q | q
  · exact .inl q
  · right;omega

set_option maxHeartbeats 1000000 in
set_option maxRecDepth 100000 in
theorem insert_end (w:World) (a:Option Addr) (n c vb x:Nat) (zs:List Nat) (h60:n≤1000000) (hr:w.ownsRow 0 94 1 (.slice a n c) n (zs.map optr)) (hv:w.cell? ⟨vb,0,none⟩=some (optr x)) :
    Calls Tryz.prog 103 #[.slice a n c,.int .i64 n,.slice (some ⟨vb,0,none⟩) 1 1] w (InsPost w (.slice a n c) n (zs ++ [x])):=by
  obtain ⟨j0,hi0,hz0,hz1,hz2⟩:=info_parts infoOrderPtr
  have HR:=hide hr
  have hnc:n≤c:=by
    rcases hr.2 with ⟨q,q2⟩ | ⟨g,cap,cur,q,_,_,q3,_⟩
    · omega
    · cases q;exact q3
  have HV:=hide (show ∀ j u,[optr x][j]? = some u→w.cell? ((⟨vb,0,none⟩ : Addr).add j)=some u from fun j u hj=>by
    cases j with
    | zero=>rw [Addr.add_lit];simpa [hv] using hj
    | succ j=>simp at hj)
  have HO:=hide (show ∀ u∈[optr x],u.oneCell'=true from fun u hu=>by rw [List.mem_singleton.1 hu];rfl)
  clear hr hv
  rcases Nat.lt_or_ge n c with hlt0 | hge
  · have hne:¬ (c=n):=by omega
    go_enter Tryz.func103,Tryz.ntmps103
    go_wp2_with (at_builtin;refine wpList_append_lies _ rfl _ _ _ rfl 0 94 j0 _ 1 8 Tryz.underlying142 hi0 hz0 hz1 hz2 rfl (by omega) _ n (zs.map optr) rfl HR.out ⟨vb,0,none⟩ 1 1 [optr x] rfl rfl HV.out HO.out (by omega) (by simp only [maxLen];omega) (by omega) (Nat.zero_le _) w.heap.size rfl ?_)
    intro g cap w1 hown hgrow hat hlt
    have H1:=hide hown
    have H2:=hide hgrow
    have H3:=hide hat
    clear hown hgrow hat
    go_wp2
    go_ret
    exact insert_end_post H1.out H2.out H3.out
  · obtain rfl:c=n:=by omega
    go_enter Tryz.func103,Tryz.ntmps103
    go_wp2_with (at_builtin;refine wpList_append_lies _ rfl _ _ _ rfl 0 94 j0 _ 1 8 Tryz.underlying142 hi0 hz0 hz1 hz2 rfl (by omega) _ c (zs.map optr) rfl HR.out ⟨vb,0,none⟩ 1 1 [optr x] rfl rfl HV.out HO.out (by omega) (by simp only [maxLen];omega) (by omega) (Nat.zero_le _) w.heap.size rfl ?_)
    intro g cap w1 hown hgrow hat hlt
    have H1:=hide hown
    have H2:=hide hgrow
    have H3:=hide hat
    clear hown hgrow hat
    go_wp2
    go_ret
    exact insert_end_post H1.out H2.out H3.out

theorem Plain.shape {w:World} {b:Nat} (h:Plain w b):∃ t k,w.shape? b=some (t,k)∧∀ j,w.frozen? ⟨b,j,none⟩=false:=by
  obtain ⟨cs,t,e⟩:=h
  exact ⟨t,cs.size,by simp [World.shape?,e],fun j=>by simp [World.frozen?,e]⟩
end

section
open Go.RowKit Go.Sort

def putAt {α:Type} (zs:List α) (i:Nat) (x:α):List α:=zs.take i ++ x :: zs.drop i

theorem putAt_length {α:Type} (zs:List α) (i:Nat) (x:α) (h:i≤zs.length):(putAt zs i x).length=zs.length+1:=by
  simp [putAt];omega

theorem putAt_get {α:Type} (zs:List α) (i:Nat) (x:α) (j:Nat) (h:i≤zs.length):(putAt zs i x)[j]? = if j<i then zs[j]? else if j=i then some x else zs[j - 1]?:=by
  unfold putAt
  have hl:(zs.take i).length=i:=by simp;omega
  by_cases h1:j<i
  · rw [if_pos h1,List.getElem?_append_left (by omega),List.getElem?_take,if_pos h1]
  · rw [if_neg h1,List.getElem?_append_right (by omega),hl]
    by_cases h2:j=i
    · simp [h2]
    · rw [if_neg h2,show j - i=(j - i - 1)+1 by omega,List.getElem?_cons_succ,List.getElem?_drop,show i+(j - i - 1)=j - 1 by omega]

theorem shift_post {w W:World} {b n c i x:Nat} {zs:List Nat} (hr:w.ownsRow 0 94 1 (.slice (some ⟨b,0,none⟩) n c) n (zs.map optr)) (hi:i<n) (hc:n+1≤c) (hW:W.heap=w.heap) (ho:W.os=w.os) (ht:W.tape=w.tape) (hu:W.output=w.output) :
    InsPost w (.slice (some ⟨b,0,none⟩) n c) n (putAt zs i x) (.returned (.slice (some ⟨b,0,none⟩) (n+1) c)) ((W.setCells b (i+1) ((zs.map optr).drop i)).setCells b i [optr x]):=by
  obtain ⟨cur,hb,hs,hn,hm,hl,hcl,hf⟩:=owns_cell hr
  rw [List.length_map] at hl
  have hb':W.heap[b]? = some (.cells cur 94 (0,0)):=by rw [hW];exact hb
  have cells:∀ a:Addr,W.cell? a=w.cell? a:=fun a=>by simp [World.cell?,hW]
  have hsome:∀ j,j<c→(W.cell? ⟨b,j,none⟩).isSome=true:=fun j hj=>by
    simp [World.cell?,hb',hs,hj]
  obtain ⟨c1,e1,s1⟩:=setCells_block b ((zs.map optr).drop i) (i+1) W cur _ _ hb'
  obtain ⟨c2,e2,s2⟩:=setCells_block b [optr x] i _ c1 _ _ e1
  have k0:Kep (fun k=>Value.ownBlock (.slice (some ⟨b,0,none⟩) n c)=some k) w W:=⟨ho,ht,hu,by rw [hW];exact Nat.le_refl _,fun k _ _=>by rw [hW]⟩
  refine ⟨b,c,rfl,owns_of_cells e2 (by omega) hc hm (by rw [List.length_map,putAt_length _ _ _ (by omega),hl]) fun j v hj=>?_,setCells_kep b _ _ _ (setCells_kep b _ _ _ k0 (.inl rfl)) (.inl rfl),.inl rfl⟩
  have hdl:((zs.map optr).drop i).length=n - i:=by simp [hl]
  rw [List.getElem?_map,putAt_get _ _ _ _ (by omega)] at hj
  by_cases h1:j<i
  · rw [if_pos h1] at hj
    rw [World.cell?_setCells_out b _ _ _ _ (fun _ _=>.inl h1),World.cell?_setCells_out b _ _ _ _ (fun _ _=>.inl (by show j<i+1;omega)),cells]
    exact hcl j v (by rw [List.getElem?_map];exact hj)
  · rw [if_neg h1] at hj
    by_cases h2:j=i
    · subst h2
      rw [if_pos rfl] at hj
      have q:=World.cell?_setCells_in b [optr x] j (W.setCells b (j+1) ((zs.map optr).drop j)) (fun t ht=>by
        obtain rfl:t=0:=by simpa using ht
        exact isSome_setCells b _ _ _ (fun t ht=>hsome _ (by omega)) _ (hsome _ (by omega))) 0 (by simp)
      refine Eq.trans q ?_
      simpa using hj
    · rw [if_neg h2] at hj
      rw [World.cell?_setCells_out b _ _ _ _ (fun _ _=>.inr (by show i+1≤j;omega))]
      have hjn:j - 1<n:=by
        cases q:zs[j - 1]? with
        | none=>rw [q] at hj;cases hj
        | some z=>have:=(List.getElem?_eq_some_iff.1 q).1;omega
      have q:=World.cell?_setCells_in b ((zs.map optr).drop i) (i+1) W (fun t ht=>hsome _ (by omega)) (j - (i+1)) (by omega)
      rw [show i+1+(j - (i+1))=j by omega] at q
      rw [q,← List.getElem?_eq_getElem,List.getElem?_drop,show i+(j - (i+1))=j - 1 by omega,List.getElem?_map]
      exact hj

set_option maxHeartbeats 4000000 in
set_option maxRecDepth 100000 in
theorem insert_shift (w:World) (b n c i vb x:Nat) (zs:List Nat) (h60:n≤1000000) (hr:w.ownsRow 0 94 1 (.slice (some ⟨b,0,none⟩) n c) n (zs.map optr)) (hv:w.cell? ⟨vb,0,none⟩=some (optr x)) (hp:Plain w vb) (hvb:vb≠b) (hi:i<n) (hroom:n+1≤c) :
    Calls Tryz.prog 103 #[.slice (some ⟨b,0,none⟩) n c,.int .i64 i,.slice (some ⟨vb,0,none⟩) 1 1] w (InsPost w (.slice (some ⟨b,0,none⟩) n c) n (putAt zs i x)):=by
  have HR:=hide hr
  obtain ⟨cur,hb,hs,hn,hm,hl,hcl,hf⟩:=owns_cell hr
  rw [List.length_map] at hl
  have hc63:c≤9223372036854775807:=by unfold maxLen at hm;omega
  obtain ⟨tA,kA,hsa,hfa⟩:=hp.shape
  have hsb:w.shape? b=some (94,c):=by simp [World.shape?,hb,hs]
  have hsome:∀ j,j<c→(w.cell? ⟨b,j,none⟩).isSome=true:=fun j hj=>by simp [World.cell?,hb,hs,hj]
  have hov:∀ lb cb,(callFunc 126 #[.slice (some ⟨vb,0,none⟩) 1 1,.slice (some ⟨b,i+1,none⟩) lb cb]).run Tryz.prog w = .ok (.value (.bool false)) w:=fun lb cb=>by
    rw [run_callFunc_extern Tryz.func126 (by kernel_rfl) (by kernel_rfl) (by kernel_rfl) (e:=Extern.SlicesOverlaps.overlaps #[142,142] #[4]) (by kernel_rfl),
      Lib.run_overlaps_apart w 142 4 94 Tryz.underlying142 1 Tryz.sizeOf94 ⟨vb,0,none⟩ ⟨b,i+1,none⟩ 1 1 lb cb hvb tA _ kA c hsa hsb (by omega) (hfa 0) (hfa kA)]
    rfl
  have hsz:(Tryz.prog.info? 94).map (·.size)=some 1:=by kernel_rfl
  have hdl:((zs.map optr).drop i).length=n - i:=by simp [hl]
  have one:∀ u∈zs.map optr,u.oneCell'=true:=fun u hu=>by
    obtain ⟨z,_,rfl⟩:=List.mem_map.1 hu
    rfl
  have hcp1:∀ ty dc sc,(Builtin.copy_ #[142,142] ty #[.slice (some ⟨b,i+1,none⟩) (n - i) dc,.slice (some ⟨b,i,none⟩) (n+1 - i) sc]).run Tryz.prog w.drew = .ok (goInt ((zs.map optr).drop i).length) (w.drew.setCells b (i+1) ((zs.map optr).drop i)):=fun ty dc sc =>
    run_copy_cells w.drew _ _ ty 94 b (i+1) _ dc ⟨b,i,none⟩ _ sc _ Tryz.underlying142 hsz (by rw [hdl];simp only [Nat.min_def];split <;> omega)
      (fun j v hj=>by rw [Addr.add_lit];exact hcl (i+j) v (by rwa [List.getElem?_drop] at hj))
      (fun j hj=>hsome _ (by omega)) (fun j hj=>hf _) (fun u hu=>one u (List.mem_of_mem_drop hu))
  obtain ⟨W1,hW1⟩ : ∃ W1,W1=w.drew.setCells b (i+1) ((zs.map optr).drop i):=⟨_,rfl⟩
  have hcp2:∀ ty dc,(Builtin.copy_ #[142,142] ty #[.slice (some ⟨b,i,none⟩) (n+1 - i) dc,.slice (some ⟨vb,0,none⟩) 1 1]).run Tryz.prog W1 = .ok (goInt 1) (W1.setCells b i [optr x]):=fun ty dc =>
    run_copy_cells W1 _ _ ty 94 b i _ dc ⟨vb,0,none⟩ 1 1 [optr x] Tryz.underlying142 hsz (by simp only [Nat.min_def,List.length_singleton];split <;> omega)
      (fun j v hj=>by
        cases j with
        | zero =>
          rw [Addr.add_lit,hW1,World.cell?_setCells_out b _ _ _ _ (fun h _=>absurd h hvb)]
          exact (hv.trans (by simpa using hj))
        | succ j=>simp at hj)
      (fun j hj=>by
        rw [hW1]
        have hj0:j<1:=hj
        exact isSome_setCells b ((zs.map optr).drop i) (i+1) w.drew (fun t ht=>hsome _ (by omega)) (i+j) (hsome _ (by omega)))
      (fun j hj=>by rw [hW1,World.frozen?_setCells];exact hf _) (fun u hu=>by rw [List.mem_singleton.1 hu];rfl)
  rw [← hW1] at hcp1
  have HW:=hide hW1
  have hz2:¬ ((i:Int)=(n:Int)):=by omega
  have hw1:IntKind.i64.wrap ((i:Int)+1)=(i:Int)+1:=by rw [IntKind.wrap_i64];omega
  have hin:i≤n:=by omega
  have hb2:¬ (c=i+1):=by omega
  have hb4:¬ (c=i):=by omega
  have hb3:(i:Int)≤(n:Int)+1:=by omega
  have htn:((i:Int)+1).toNat=i+1:=by omega
  have hb1:(0:Int)≤(i:Int)+1:=by omega
  have hmx:Tryz.prog.follows .mixedOrders=true:=by kernel_rfl
  clear hW1 one hcl hf hsome hr hb hs hsb hv hp hsa hfa
  go_enter Tryz.func103,Tryz.ntmps103
  go_wp2_with (simp only [hov])
  go_region_law_o (refine step_copy_runI rfl _ _ 142 142 rfl _ _ (by simp [Act.eval,Act.put]) (by simp [Act.eval,Act.put]) (hcp1 _ _ _) ?_)
  go_wp2_with (at_builtin;refine wpList_copy_runI _ rfl _ _ 142 142 rfl _ _ rfl rfl (hcp2 _ _) ?_)
  go_ret
  rw [HW.out]
  exact shift_post HR.out hi hroom rfl rfl rfl rfl
end

section
open Go.RowKit Go.Sort

theorem grow_post {w W:World} {b n c i x G:Nat} {zs:List Nat} {ROW:Array Value} (hl:zs.length=n) (hi:i<n) (hR:ROW.size=G) (hG:n+1≤G) (hm:G≤maxLen) (hRi:∀ j,j<i→ROW[j]? = (zs.map optr)[j]?) (kW:Kep non w W) (hb:W.heap[w.heap.size]? = some (.cells ROW 94 (0,0))) :
    InsPost w (.slice (some ⟨b,0,none⟩) n c) n (putAt zs i x) (.returned (.slice (some ⟨w.heap.size,0,none⟩) (n+1) G)) ((W.setCells w.heap.size i [optr x]).drew.setCells w.heap.size (i+1) ((zs.map optr).drop i)):=by
  obtain ⟨H,hH⟩ : ∃ H,H=w.heap.size:=⟨_,rfl⟩
  rw [← hH] at hb ⊢
  have hsome:∀ j,j<G→(W.cell? ⟨H,j,none⟩).isSome=true:=fun j hj=>by simp [World.cell?,hb,hR,hj]
  obtain ⟨c1,e1,s1⟩:=setCells_block H [optr x] i W ROW _ _ hb
  obtain ⟨c2,e2,s2⟩:=setCells_block H ((zs.map optr).drop i) (i+1) (W.setCells H i [optr x]).drew c1 _ _ e1
  have hge:w.heap.size≤H:=by omega
  have k2:Kep non w ((W.setCells H i [optr x]).drew.setCells H (i+1) ((zs.map optr).drop i)):=setCells_kep H _ _ _ (setCells_kep H _ _ _ kW (.inr hge)).drew (.inr hge)
  refine ⟨H,G,rfl,owns_of_cells e2 (by omega) hG hm (by rw [List.length_map,putAt_length _ _ _ (by omega),hl]) fun j v hj=>?_,k2.none,.inr (by omega)⟩
  have hdl:((zs.map optr).drop i).length=n - i:=by simp [hl]
  have hd:∀ a:Addr,(W.setCells H i [optr x]).drew.cell? a=(W.setCells H i [optr x]).cell? a:=fun _=>rfl
  rw [List.getElem?_map,putAt_get _ _ _ _ (by omega)] at hj
  by_cases h1:j<i
  · rw [if_pos h1] at hj
    rw [World.cell?_setCells_out H _ _ _ _ (fun _ _=>.inl (by show j<i+1;omega)),hd,World.cell?_setCells_out H _ _ _ _ (fun _ _=>.inl h1)]
    simp only [World.cell?,hb]
    rw [hRi j h1,List.getElem?_map]
    exact hj
  · rw [if_neg h1] at hj
    by_cases h2:j=i
    · subst h2
      rw [if_pos rfl] at hj
      rw [World.cell?_setCells_out H _ _ _ _ (fun _ _=>.inl (by show j<j+1;omega)),hd]
      have q:=World.cell?_setCells_in H [optr x] j W (fun t ht=>by
        obtain rfl:t=0:=by simpa using ht
        exact hsome _ (by omega)) 0 (by simp)
      refine Eq.trans q ?_
      simpa using hj
    · rw [if_neg h2] at hj
      have hjn:j - 1<n:=by
        cases q:zs[j - 1]? with
        | none=>rw [q] at hj;cases hj
        | some z=>have:=(List.getElem?_eq_some_iff.1 q).1;omega
      have q:=World.cell?_setCells_in H ((zs.map optr).drop i) (i+1) (W.setCells H i [optr x]).drew (fun t ht=>isSome_setCells H [optr x] i W (fun t ht=>hsome _ (by have ht0:t<1:=ht;omega)) _ (hsome _ (by omega))) (j - (i+1)) (by omega)
      rw [show i+1+(j - (i+1))=j by omega] at q
      rw [q,← List.getElem?_eq_getElem,List.getElem?_drop,show i+(j - (i+1))=j - 1 by omega,List.getElem?_map]
      exact hj

set_option maxHeartbeats 4000000 in
set_option maxRecDepth 100000 in
theorem insert_grow (w:World) (b n i vb x:Nat) (zs:List Nat) (h60:n≤1000000) (hr:w.ownsRow 0 94 1 (.slice (some ⟨b,0,none⟩) n n) n (zs.map optr)) (hv:w.cell? ⟨vb,0,none⟩=some (optr x)) (hi:i<n) :
    Calls Tryz.prog 103 #[.slice (some ⟨b,0,none⟩) n n,.int .i64 i,.slice (some ⟨vb,0,none⟩) 1 1] w (InsPost w (.slice (some ⟨b,0,none⟩) n n) n (putAt zs i x)):=by
  obtain ⟨cur,hb,hs,_,hm,hl,hcl,hf⟩:=owns_cell hr
  rw [List.length_map] at hl
  obtain ⟨i0,hi0,hz0,hzs,hzb⟩:=info_parts infoOrderPtr
  have hsz:(Tryz.prog.info? 94).map (·.size)=some 1:=by kernel_rfl
  have hbw:b<w.heap.size:=(Array.getElem?_eq_some_iff.1 hb).1
  have hvw:vb<w.heap.size:=World.block_lt_of_cell? w _ hv
  have hdl:((zs.map optr).drop i).length=n - i:=by simp [hl]
  have one:∀ u∈zs.map optr,u.oneCell'=true:=fun u hu=>by
    obtain ⟨z,_,rfl⟩:=List.mem_map.1 hu
    rfl
  have hold:(Builtin.firstCells i0.size i (.slice (some ⟨b,0,none⟩) i n)).run Tryz.prog w.drew = .ok ((zs.map optr).take i).toArray w.drew:=by
    rw [hzs]
    refine run_firstCells_some w.drew 1 i ⟨b,0,none⟩ i n ((zs.map optr).take i) (by simp;omega) fun j v hj=>?_
    rw [Addr.add_lit]
    rw [List.getElem?_take] at hj
    split at hj
    · exact (congrArg (fun k=>w.cell? ⟨b,k,none⟩) (Nat.zero_add j)).trans (hcl j v hj)
    · cases hj
  obtain ⟨G,hG⟩ : ∃ G,G=grownCap w (n+1) n 94:=⟨_,rfl⟩
  obtain ⟨ROW,hROW⟩ : ∃ ROW:Array Value,ROW=((zs.map optr).take i).toArray ++ Builtin.zeroCells (Value.pointer none).cells (n+1 - i) ++ Builtin.zeroCells (Value.pointer none).cells (G - (n+1)):=⟨_,rfl⟩
  have hGn:n+1≤G:=by rw [hG];exact grownCap_ge w _ _ _
  have hGm:G≤maxLen:=by
    have:=grownCap_le_maxLen w (n+1) n 94 (by unfold maxLen;omega)
    rwa [← hG] at this
  have hRs:ROW.size=G:=by
    rw [hROW]
    simp [Builtin.zeroCells,Value.cells,hl]
    omega
  have hRi:∀ j,j<i→ROW[j]? = (zs.map optr)[j]?:=fun j hj=>by
    rw [hROW,Array.append_assoc,Array.getElem?_append_left (by simp;omega)]
    simp [hj]
  obtain ⟨W1,hW1⟩ : ∃ W1,W1=w.drew.alloc (.cells ROW 94):=⟨_,rfl⟩
  have hrz:∀ ty,(Builtin.append_ #[142,3] ty #[.slice (some ⟨b,0,none⟩) i n,.int .i64 ((n:Int)+1 - (i:Int))]).run Tryz.prog w = .ok (.slice (some ⟨w.heap.size,0,none⟩) (n+1) G) W1:=fun ty=>by
    have h:=Lib.run_append_grow_zeros w 142 3 ty 94 i0 _ .i64 .i64 Tryz.underlying142 Tryz.underlying3 hi0 hz0 (some ⟨b,0,none⟩) i n _ hold (n+1 - i) (by omega) (by omega) (by omega) (by omega) (by rw [hzb];omega) (by rw [hzb,show i+(n+1 - i)=n+1 by omega];exact growslice_fits (by omega) (by omega))
    rw [show i+(n+1 - i)=n+1 by omega,← hG,← hROW,← hW1] at h
    rw [show (n:Int)+1 - (i:Int)=((n+1 - i:Nat):Int) by omega]
    exact h
  have hb1:W1.heap[w.heap.size]? = some (.cells ROW 94 (0,0)):=by
    rw [hW1]
    show (w.heap.push _)[w.heap.size]? = _
    simp
  have kW:Kep non w W1:=by rw [hW1];exact ((Kep.refl non w).drew).alloc _
  have hsome:∀ j,j<G→(W1.cell? ⟨w.heap.size,j,none⟩).isSome=true:=fun j hj=>by simp [World.cell?,hb1,hRs,hj]
  have hfr:∀ j,W1.frozen? ⟨w.heap.size,j,none⟩=false:=fun j=>by simp [World.frozen?,hb1]
  have hcpA:∀ ty dc,(Builtin.copy_ #[142,142] ty #[.slice (some ⟨w.heap.size,i,none⟩) (n+1 - i) dc,.slice (some ⟨vb,0,none⟩) 1 1]).run Tryz.prog W1 = .ok (goInt 1) (W1.setCells w.heap.size i [optr x]):=fun ty dc =>
    run_copy_cells W1 _ _ ty 94 w.heap.size i _ dc ⟨vb,0,none⟩ 1 1 [optr x] Tryz.underlying142 hsz (by simp only [Nat.min_def,List.length_singleton];split <;> omega)
      (fun j v hj=>by
        cases j with
        | zero=>exact (kW.cell (p:=⟨vb,0,none⟩) hv (fun q=>q)).trans (by simpa using hj)
        | succ j=>simp at hj)
      (fun j hj=>hsome _ (by have hj0:j<1:=hj;omega)) (fun j hj=>hfr _) (fun u hu=>by rw [List.mem_singleton.1 hu];rfl)
  obtain ⟨W2,hW2⟩ : ∃ W2,W2=W1.setCells w.heap.size i [optr x]:=⟨_,rfl⟩
  have hcpB:∀ ty dc sc,(Builtin.copy_ #[142,142] ty #[.slice (some ⟨w.heap.size,i+1,none⟩) (n - i) dc,.slice (some ⟨b,i,none⟩) (n - i) sc]).run Tryz.prog W2.drew = .ok (goInt ((zs.map optr).drop i).length) (W2.drew.setCells w.heap.size (i+1) ((zs.map optr).drop i)):=fun ty dc sc =>
    run_copy_cells W2.drew _ _ ty 94 w.heap.size (i+1) _ dc ⟨b,i,none⟩ _ sc _ Tryz.underlying142 hsz (by rw [hdl];simp only [Nat.min_def];split <;> omega)
      (fun j v hj=>by
        rw [Addr.add_lit]
        show W2.cell? _=_
        rw [hW2,World.cell?_setCells_out _ _ _ _ _ (fun h _=>absurd h (by show b≠w.heap.size;omega))]
        exact kW.cell (hcl (i+j) v (by rwa [List.getElem?_drop] at hj)) (fun q=>q))
      (fun j hj=>by
        show (W2.cell? _).isSome=true
        rw [hW2]
        exact isSome_setCells _ [optr x] i W1 (fun t ht=>hsome _ (by have ht0:t<1:=ht;omega)) _ (hsome _ (by omega)))
      (fun j hj=>by
        show W2.frozen? _=false
        rw [hW2,World.frozen?_setCells]
        exact hfr _) (fun u hu=>one u (List.mem_of_mem_drop hu))
  rw [← hW2] at hcpA
  have HP:=hide (show InsPost w (.slice (some ⟨b,0,none⟩) n n) n (putAt zs i x) (.returned (.slice (some ⟨w.heap.size,0,none⟩) (n+1) G)) (W2.drew.setCells w.heap.size (i+1) ((zs.map optr).drop i)) by
    rw [hW2]
    exact grow_post hl hi hRs hGn hGm hRi kW hb1)
  have hz2:¬ ((i:Int)=(n:Int)):=by omega
  have hw1:IntKind.i64.wrap ((i:Int)+1)=(i:Int)+1:=by rw [IntKind.wrap_i64];omega
  have hin:i≤n:=by omega
  have hGi:¬ (G=i):=by omega
  have hGim:¬ (G=i+1):=by omega
  have hci:¬ (n=i):=by omega
  have hb3:(i:Int)≤(n:Int)+1:=by omega
  have hb5:(i:Int)≤(n:Int):=by omega
  have htn:((i:Int)+1).toNat=i+1:=by omega
  have hb0:(0:Int)≤(i:Int)+1:=by omega
  have hmx:Tryz.prog.follows .mixedOrders=true:=by kernel_rfl
  clear hW1 hW2 one hcl hf hsome hr hb hs hv hRi hROW hRs hG hb1 kW hfr hold hbw hvw
  generalize w.heap.size=H at *
  go_enter Tryz.func103,Tryz.ntmps103
  go_wp2_with (first
    | (at_builtin;refine Lib.wpList_append_run _ rfl _ _ _ _ rfl _ _ rfl rfl _ _ (hrz _) ?_)
    | (at_builtin;refine wpList_copy_runI _ rfl _ _ 142 142 rfl _ _ rfl rfl (hcpA _ _) ?_))
  go_region_law_o (refine step_copy_runI rfl _ _ 142 142 rfl _ _ (by simp [Act.eval,Act.put]) (by simp [Act.eval,Act.put]) (hcpB _ _ _) ?_)
  go_wp2
  go_ret
  exact HP.out

theorem insert_any (w:World) (a:Option Addr) (n c i vb x:Nat) (zs:List Nat) (h60:n≤1000000) (hr:w.ownsRow 0 94 1 (.slice a n c) n (zs.map optr)) (hv:w.cell? ⟨vb,0,none⟩=some (optr x)) (hp:Plain w vb) (hvb:Value.ownBlock (.slice a n c)≠some vb) (hi:i≤n) :
    Calls Tryz.prog 103 #[.slice a n c,.int .i64 i,.slice (some ⟨vb,0,none⟩) 1 1] w (InsPost w (.slice a n c) n (putAt zs i x)):=by
  have hl:zs.length=n:=by have:=hr.1;simpa using this
  by_cases e:i=n
  · subst e
    have q:putAt zs i x=zs ++ [x]:=by
      unfold putAt
      rw [List.take_of_length_le (by omega),List.drop_eq_nil_of_le (by omega)]
    rw [q]
    exact insert_end w a i c vb x zs h60 hr hv
  · rcases hr.2 with ⟨q,q2⟩ | ⟨g,cap,cur,q,_,_,q3,_⟩
    · omega
    · injection q with q1 q2 q4
      subst q1 q4
      by_cases hc:n+1≤c
      · exact insert_shift w g n c i vb x zs h60 hr hv hp (fun e=>hvb (by rw [e];rfl)) (by omega) hc
      · obtain rfl:c=n:=by omega
        exact insert_grow w g c i vb x zs h60 hr hv (by omega)
end

section
open Go.RowKit Go.Sort

def All2 {α β:Type} (R:α→β→Prop):List α→List β→Prop
  | [],[]=>True
  | x :: a,y :: b=>R x y∧All2 R a b
  | _,_=>False

def OdAt (w:World) (b:Nat) (o:Od):Prop:=∀ j v,o.cells[j]? = some v→Own w ⟨b,j,none⟩ v

theorem forall2_get {α β:Type} {R:α→β→Prop}:∀ {a:List α} {b:List β},All2 R a b→a.length=b.length∧∀ (i:Nat) (x:α) (y:β),a[i]? = some x→b[i]? = some y→R x y
  | [],[],_=>⟨rfl,fun i x y q=>by simp at q⟩
  | [],_ :: _,h=>h.elim
  | _ :: _,[],h=>h.elim
  | u :: a,v :: b,h=>by
    have ih:=forall2_get h.2
    refine ⟨by simp [ih.1],fun i x y q1 q2=>?_⟩
    rcases i with _ | i
    · simp at q1 q2;subst q1;subst q2;exact h.1
    · exact ih.2 i x y (by simpa using q1) (by simpa using q2)

theorem forall2_of {α β:Type} {R:α→β→Prop}:∀ {a:List α} {b:List β},a.length=b.length→(∀ (i:Nat) (x:α) (y:β),a[i]? = some x→b[i]? = some y→R x y)→All2 R a b
  | [],[],_,_=>trivial
  | [],_ :: _,h,_=>by simp at h
  | _ :: _,[],h,_=>by simp at h
  | x :: a,y :: b,h,f=>⟨f 0 x y rfl rfl,forall2_of (by simpa using h) fun i u v q1 q2=>f (i+1) u v (by simpa using q1) (by simpa using q2)⟩

theorem forall2_append {α β:Type} {R:α→β→Prop} {a':List α} {b':List β} (h':All2 R a' b'):∀ {a:List α} {b:List β},All2 R a b→All2 R (a ++ a') (b ++ b')
  | [],[],_=>h'
  | [],_ :: _,h=>h.elim
  | _ :: _,[],h=>h.elim
  | _ :: _,_ :: _,h=>⟨h.1,forall2_append h' h.2⟩

theorem forall2_upG {α β:Type} {R:α→β→Prop} {f:Nat→Nat→List α} {k:Nat→Nat→List β}:∀ G,(∀ g s,g<G→s<2→All2 R (f g s) (k g s))→All2 R (upG f G) (upG k G)
  | 0,_=>trivial
  | G+1,h=>forall2_append (forall2_append (h G 1 (by omega) (by omega)) (h G 0 (by omega) (by omega))) (forall2_upG G fun g s hg hs=>h g s (by omega) hs)

theorem forall2_upH {α β:Type} {R:α→β→Prop} {G:Nat} {f:Nat→Nat→Nat→List α} {k:Nat→Nat→Nat→List β}:∀ H,(∀ h g s,h<H→g<G→s<2→All2 R (f h g s) (k h g s))→All2 R (upH G f H) (upH G k H)
  | 0,_=>trivial
  | H+1,q=>forall2_append (forall2_upG G fun g s hg hs=>q H g s (by omega) hg hs) (forall2_upH H fun h g s hh hg hs=>q h g s (by omega) hg hs)

theorem PRep.one {w:World} {L:PL} {m:Mt} (R:PRep w L m) {h g s:Nat} (q:at3 m h g s):All2 (OdAt w) (L.ob h g s) (m.bk h g s) :=
  forall2_of (R.ln h g s q) fun i x y q1 q2=>R.oc h g s i x y q q1 q2

theorem PRep.odall {w:World} {L:PL} {m:Mt} (R:PRep w L m):All2 (OdAt w) (L.all m) m.all :=
  forall2_upH m.H fun _ _ _ hh hg hs=>R.one ⟨hh,hg,hs⟩

theorem PRep.len_all {w:World} {L:PL} {m:Mt} (R:PRep w L m):(L.all m).length=m.all.length:=(forall2_get R.odall).1

theorem OdAt.below {w w':World} {b:Nat} {o:Od} (h:OdAt w b o) (k:Below w.heap.size w w'):OdAt w' b o:=fun j v q=>(h j v q).kep (Kep.of_below (S:=non) k) (fun q=>q)

theorem heldL_take {t:Int} {l:List Od} {k:Nat} (hk:k<l.length):heldL t (l.take (k+1))=heldL t (l.take k)+if l[k].t=t∧l[k].s=0 then l[k].p * l[k].q else 0:=by
  rw [List.take_succ_eq_append_getElem hk,heldL_append]
  simp [heldL]

theorem heldL_take_bd {m:Mt} {N:Int} (ok:m.Ok N) (t:Int) (k:Nat):0≤heldL t (m.all.take k)∧heldL t (m.all.take k)≤60000000000:=by
  have h:=heldL_bd t (m.all.take k) (fun o ho=>⟨(ok.all_ok (List.mem_of_mem_take ho)).2.2.1,(ok.all_ok (List.mem_of_mem_take ho)).2.2.2⟩)
  have:=ok.a60
  have:(m.all.take k).length≤60:=by rw [List.length_take];omega
  omega

theorem held_bd {m:Mt} {N:Int} (ok:m.Ok N) (t:Int):0≤m.held t∧m.held t≤60000000000:=by
  have:=heldL_take_bd ok t m.all.length
  rwa [List.take_length] at this

set_option maxRecDepth 100000 in
set_option maxHeartbeats 4000000 in
theorem heldMoney_any (w:World) (L:PL) (m:Mt) (N t:Int) (R:PRep w L m) (ok:m.Ok N) :
    Calls Tryz.prog 71 #[.pointer (some ⟨L.x,0,none⟩),.int .i64 t] w fun e w'=>e = .returned (.int .i64 (m.held t))∧Below w.heap.size w w':=by
  have hlen:=R.len_all
  have h60:=ok.a60
  have HW:=hide (waiting_any w L m N R ok (by omega))
  have HF:=hide (forall2_get R.odall).2
  have HO:=hide ok
  clear R ok
  go_enter Tryz.func71,Tryz.ntmps71
  go_wp2_with fail
  refine HW.out.mono ?_
  rintro e W ⟨v,rfl,hown,hB⟩
  obtain ⟨ra,rc,rfl⟩:=row_form hown
  have HRow:=hide hown
  clear hown HW
  go_wp2
  go_loopw [5,11] (fun a i wr=>∃ k:Nat,k≤m.all.length∧i = .int .i64 k∧a = .int .i64 (heldL t (m.all.take k))∧Below W.heap.size W wr) (fun _ i _=>m.all.length - (intOf i).toNat)
  case atStart=>exact ⟨0,by omega,rfl,rfl,Below.refl _ _⟩
  case round =>
    obtain ⟨k,hk,rfl,rfl,hB2⟩:=hrel
    by_cases hlt:k<m.all.length
    · have hb:k<(L.all m).length:=by omega
      have hlt':(k:Int)<((L.all m).length:Int):=by omega
      obtain ⟨pb,pc,hpv,_,_⟩:=HRow.out.form (by omega)
      simp only [Value.slice.injEq,true_and] at hpv
      obtain ⟨rfl,rfl⟩:=hpv
      have c0:wr.cell? ⟨pb,k,none⟩=some (.pointer (some ⟨(L.all m)[k],0,none⟩)):=by
        refine (Kep.of_below (S:=non) hB2).cell ?_ (fun q=>q)
        rw [HRow.out.cellAt k (by omega)]
        simp [hb,optr]
      have od:OdAt wr (L.all m)[k] m.all[k]:=((HF.out k _ _ (by simp [hb]) (by simp [hlt])).below hB).below hB2
      have o1:=(od 1 _ rfl).cell
      have o4:=(od 4 _ rfl).cell
      have o5:=(od 5 _ rfl).cell
      have o6:=(od 6 _ rfl).cell
      have bo:=HO.out.all_ok (List.getElem_mem hlt)
      have HS:=hide (heldL_take (t:=t) hlt)
      have b1:=heldL_take_bd HO.out t k
      have b2:=mul_le' (a:=m.all[k].p) (b:=m.all[k].q) (A:=100000) (B:=10000) (by omega) (by omega) (by omega) (by omega)
      generalize m.all[k]=o at *
      generalize heldL t (m.all.take k)=S at *
      clear od
      by_cases e1:o.t=t
      · by_cases e2:o.s=0
        · have e3:Hid (S+o.p * o.q=heldL t (m.all.take (k+1))):=hide (by rw [HS.out,if_pos ⟨e1,e2⟩])
          go_wp2
          go_quiet (fail)
          go_wp2
          exact ⟨⟨k+1,by omega,by go_num,by rw [← e3.out],below_drewN hB2 _⟩,by simp [intOf];omega⟩
        · have e3:Hid (S=heldL t (m.all.take (k+1))):=hide (by rw [HS.out,if_neg (fun q=>e2 q.2),Int.add_zero])
          go_wp2
          exact ⟨⟨k+1,by omega,by go_num,by rw [← e3.out],hB2⟩,by simp [intOf];omega⟩
      · have e3:Hid (S=heldL t (m.all.take (k+1))):=hide (by rw [HS.out,if_neg (fun q=>e1 q.1),Int.add_zero])
        go_wp2
        exact ⟨⟨k+1,by omega,by go_num,by rw [← e3.out],hB2⟩,by simp [intOf];omega⟩
    · have e:Hid (heldL t (m.all.take k)=m.held t):=hide (by rw [List.take_of_length_le (by omega)];rfl)
      go_wp2
      go_ret
      exact ⟨by rw [← e.out];rfl,hB.trans (hB2.mono hB.size)⟩

theorem mixed:Tryz.prog.follows .mixedOrders=true:=by kernel_rfl

def Mt.sumM (m:Mt):Nat→Int
  | 0=>m.ho
  | j+1=>m.sumM j+(m.mo j+m.held j)

theorem sumM_bd {m:Mt} {N:Int} (ok:m.Ok N):∀ j,j≤m.T→0≤m.sumM j∧m.sumM j≤1000000000000+1060000000000 * (j:Int)
  | 0,_=>by have:=ok.ho;simp only [Mt.sumM];omega
  | j+1,h=>by
    have h1:=sumM_bd ok j (by omega)
    have h2:=ok.mo j (by omega)
    have h3:=held_bd ok j
    simp only [Mt.sumM]
    omega

theorem acct_cells {w:World} {L:PL} {m:Mt} (R:PRep w L m) (t:Nat) (ht:t<m.T) (h g:Nat) (hh:h<4) (hg:g<4) (k:Nat) (hk:k=1+h * 4+g):w.cell? ⟨L.ab,t * 17+k,none⟩=some (.int .i64 (m.pc t h g)):=by
  subst hk
  have:=(R.pc t h g ht hh hg).cell
  rw [show t * 17+(1+h * 4+g)=t * 17+1+h * 4+g from by omega]
  exact this

set_option maxRecDepth 100000 in
set_option maxHeartbeats 4000000 in
theorem allMoney_any (w:World) (L:PL) (m:Mt) (N:Int) (R:PRep w L m) (ok:m.Ok N) :
    Calls Tryz.prog 83 #[.pointer (some ⟨L.x,0,none⟩)] w fun e w'=>e = .returned (.int .i64 (m.sumM m.T))∧Below w.heap.size w w':=by
  have c2:=R.cA.cell
  have c6:=R.cH.cell
  have bT:=ok.T8
  have bh:=ok.ho
  have HR:=hide R
  have HO:=hide ok
  clear R ok
  go_enter Tryz.func83,Tryz.ntmps83
  go_wp2
  go_loopw [3,15] (fun a i wr=>∃ j:Nat,j≤m.T∧i = .int .i64 j∧a = .int .i64 (m.sumM j)∧Below w.heap.size w wr) (fun _ i _=>m.T - (intOf i).toNat)
  case atStart=>exact ⟨0,Nat.zero_le _,rfl,rfl,Below.refl _ _⟩
  case round =>
    obtain ⟨j,hj,rfl,rfl,hB⟩:=hrel
    have bs:=sumM_bd HO.out j hj
    by_cases hlt:j<m.T
    · have Rr:=HR.out.bel hB
      have cm:=(Rr.mo j hlt).cell
      have bj:=HO.out.mo j hlt
      have bq:=held_bd HO.out j
      have a1:=acct_cells Rr j hlt 0 0 (by decide) (by decide) 1 rfl
      have a2:=acct_cells Rr j hlt 0 1 (by decide) (by decide) 2 rfl
      have a3:=acct_cells Rr j hlt 0 2 (by decide) (by decide) 3 rfl
      have a4:=acct_cells Rr j hlt 0 3 (by decide) (by decide) 4 rfl
      have a5:=acct_cells Rr j hlt 1 0 (by decide) (by decide) 5 rfl
      have a6:=acct_cells Rr j hlt 1 1 (by decide) (by decide) 6 rfl
      have a7:=acct_cells Rr j hlt 1 2 (by decide) (by decide) 7 rfl
      have a8:=acct_cells Rr j hlt 1 3 (by decide) (by decide) 8 rfl
      have a9:=acct_cells Rr j hlt 2 0 (by decide) (by decide) 9 rfl
      have a10:=acct_cells Rr j hlt 2 1 (by decide) (by decide) 10 rfl
      have a11:=acct_cells Rr j hlt 2 2 (by decide) (by decide) 11 rfl
      have a12:=acct_cells Rr j hlt 2 3 (by decide) (by decide) 12 rfl
      have a13:=acct_cells Rr j hlt 3 0 (by decide) (by decide) 13 rfl
      have a14:=acct_cells Rr j hlt 3 1 (by decide) (by decide) 14 rfl
      have a15:=acct_cells Rr j hlt 3 2 (by decide) (by decide) 15 rfl
      have a16:=acct_cells Rr j hlt 3 3 (by decide) (by decide) 16 rfl
      have HS:=hide (show m.sumM (j+1)=m.sumM j+(m.mo j+m.held j) from rfl)
      have HB2:Hid (Below w.heap.size w (wr.alloc (.cells #[.int .i64 (m.mo j),.int .i64 (m.pc j 0 0),.int .i64 (m.pc j 0 1),.int .i64 (m.pc j 0 2),.int .i64 (m.pc j 0 3),.int .i64 (m.pc j 1 0),.int .i64 (m.pc j 1 1),.int .i64 (m.pc j 1 2),.int .i64 (m.pc j 1 3),.int .i64 (m.pc j 2 0),.int .i64 (m.pc j 2 1),.int .i64 (m.pc j 2 2),.int .i64 (m.pc j 2 3),.int .i64 (m.pc j 3 0),.int .i64 (m.pc j 3 1),.int .i64 (m.pc j 3 2),.int .i64 (m.pc j 3 3)] 130))):=hide (hB.alloc hB.size _)
      have z0:(wr.alloc (.cells #[.int .i64 (m.mo j),.int .i64 (m.pc j 0 0),.int .i64 (m.pc j 0 1),.int .i64 (m.pc j 0 2),.int .i64 (m.pc j 0 3),.int .i64 (m.pc j 1 0),.int .i64 (m.pc j 1 1),.int .i64 (m.pc j 1 2),.int .i64 (m.pc j 1 3),.int .i64 (m.pc j 2 0),.int .i64 (m.pc j 2 1),.int .i64 (m.pc j 2 2),.int .i64 (m.pc j 2 3),.int .i64 (m.pc j 3 0),.int .i64 (m.pc j 3 1),.int .i64 (m.pc j 3 2),.int .i64 (m.pc j 3 3)] 130)).cell? ⟨wr.heap.size,0,none⟩=some (.int .i64 (m.mo j)):=cell_of_row _ _ 0 _ _ _ (heap_alloc_new wr (.cells #[.int .i64 (m.mo j),.int .i64 (m.pc j 0 0),.int .i64 (m.pc j 0 1),.int .i64 (m.pc j 0 2),.int .i64 (m.pc j 0 3),.int .i64 (m.pc j 1 0),.int .i64 (m.pc j 1 1),.int .i64 (m.pc j 1 2),.int .i64 (m.pc j 1 3),.int .i64 (m.pc j 2 0),.int .i64 (m.pc j 2 1),.int .i64 (m.pc j 2 2),.int .i64 (m.pc j 2 3),.int .i64 (m.pc j 3 0),.int .i64 (m.pc j 3 1),.int .i64 (m.pc j 3 2),.int .i64 (m.pc j 3 3)] 130))
      go_upto_region 5 with fail
      clear Rr hB a1 a2 a3 a4 a5 a6 a7 a8 a9 a10 a11 a12 a13 a14 a15 a16 cm
      generalize wr.alloc (.cells #[.int .i64 (m.mo j),.int .i64 (m.pc j 0 0),.int .i64 (m.pc j 0 1),.int .i64 (m.pc j 0 2),.int .i64 (m.pc j 0 3),.int .i64 (m.pc j 1 0),.int .i64 (m.pc j 1 1),.int .i64 (m.pc j 1 2),.int .i64 (m.pc j 1 3),.int .i64 (m.pc j 2 0),.int .i64 (m.pc j 2 1),.int .i64 (m.pc j 2 2),.int .i64 (m.pc j 2 3),.int .i64 (m.pc j 3 0),.int .i64 (m.pc j 3 1),.int .i64 (m.pc j 3 2),.int .i64 (m.pc j 3 3)] 130)=W1 at *
      generalize wr.heap.size=zb at *
      have z0':=cell_regrown z0
      have cH:Hid (∀ d os,Calls Tryz.prog 71 #[.pointer (some ⟨L.x,0,none⟩),.int .i64 j] (grow (redrawn W1 d) os) fun e w''=>e = .returned (.int .i64 (m.held j))∧∃ p:Regrown,w''=grow (redrawn W1 p.d) p.os) :=
        hide fun d os=>Calls.regrown_of (heldMoney_any _ L m N j ((HR.out.bel HB2.out).bel (below_regrown W1 d os)) HO.out)
      generalize m.held j=hd at *
      refine wp_region_quiet_below mixed (by kernel_rfl) ?_
      repeat (quiet_step (first | exact cH.out _ _))
      refine wpQuiet_nil ?_
      intro _ hw'
      obtain ⟨⟨dq,osq⟩,hw''⟩:=hw'
      subst hw''
      go_wp2
      have w1:IntKind.i64.wrap (m.mo j+hd)=m.mo j+hd:=IntWalk.i64_in _ (by omega)
      have w2:IntKind.i64.wrap (m.sumM j+(m.mo j+hd))=m.sumM j+(m.mo j+hd):=IntWalk.i64_in _ (by omega)
      refine ⟨⟨j+1,by omega,by go_num,?_,HB2.out.trans ((below_regrown W1 dq osq).mono HB2.out.size)⟩,by simp [intOf];omega⟩
      rw [w1,w2,HS.out]
    · have e1:Hid (m.sumM j=m.sumM m.T):=hide (by rw [show j=m.T by omega])
      go_wp2
      go_ret
      exact ⟨by rw [← e1.out];rfl,hB⟩
end

end Go.Proofs.YtcfoobhihhndjaaGreat
