import Derived.Test.YtcfoobhihhndjaaGreatB02
import Derived.Shelf.SlicesE.Delete
import Derived.Shelf.SlGeneric
import Derived.Ground.SlgnProg
namespace Go.Proofs
open Go.Shelf
shelf_lay_g SlLaysE.n45 Slgn 45 at Tryz 125 as Tryz.ldel
end Go.Proofs
namespace Go.Proofs.YtcfoobhihhndjaaGreat
open Go.RowKit Go.Sort

theorem owns_of_cells {w:World} {b:Nat} {e:TypeId} {n cap:Nat} {cur:Array Value} {xs:List Value} (hb:w.heap[b]? = some (.cells cur e (0,0))) (hs:cur.size=cap) (hn:n≤cap) (hm:cap≤maxLen) (hl:xs.length=n)
    (hc:∀ j v,xs[j]? = some v→w.cell? ⟨b,j,none⟩=some v):w.ownsRow 0 e 1 (.slice (some ⟨b,0,none⟩) n cap) n xs:=by
  refine ⟨by omega,.inr ⟨b,cap,cur,rfl,Nat.zero_le _,hb,hn,hm,by omega,?_⟩⟩
  apply List.ext_getElem?
  intro j
  rw [List.getElem?_take]
  by_cases h:j<n
  · rw [if_pos (by omega)]
    have e1:xs[j]? = some (xs[j]'(by omega)):=List.getElem?_eq_getElem _
    have e2:=hc j _ e1
    simp only [World.cell?,hb] at e2
    rw [e1,Array.getElem?_toList]
    exact e2
  · rw [if_neg (by omega),List.getElem?_eq_none (by omega)]

theorem setCells_block (b:Nat):∀ (vs:List Value) (o:Nat) (w:World) (cur:Array Value) (e:TypeId) (fr:Nat × Nat),w.heap[b]? = some (.cells cur e fr)→∃ cur',(w.setCells b o vs).heap[b]? = some (.cells cur' e fr)∧cur'.size=cur.size
  | [],_,w,cur,e,fr,h=>⟨cur,h,rfl⟩
  | v :: r,o,w,cur,e,fr,h=>by
    rw [World.setCells]
    obtain ⟨c,h1,h2⟩:=setCells_block b r (o+1) (w.setCell ⟨b,o,none⟩ v) (cur.setIfInBounds o v) e fr (by rw [setCell_eq];simp [mapBlock,Array.getElem?_modify,h,onCells])
    exact ⟨c,h1,by rw [h2];simp⟩

theorem setCells_kep {S:Nat→Prop} {a:World} (b:Nat):∀ (vs:List Value) (o:Nat) (w:World),Kep S a w→(S b∨a.heap.size≤b)→Kep S a (w.setCells b o vs)
  | [],_,_,h,_=>h
  | v :: r,o,w,h,q=>by
    rw [World.setCells]
    exact setCells_kep b r (o+1) _ (h.setCell (p:=⟨b,o,none⟩) q v) q

def encO (o:Option Nat):Value:=.pointer (o.map fun b=>⟨b,0,none⟩)
theorem encO_one:OneCell encO:=fun _=>rfl
theorem encO_some (b:Nat):encO (some b)=optr b:=rfl

theorem putRow_block (w:World) (b:Nat) (D:Array (Option Nat)) (cur:Array Value) (e:TypeId) (fr:Nat × Nat) (h:w.heap[b]? = some (.cells cur e fr)):(putRow encO w b 0 D).heap[b]? = some (.cells (putCells encO 0 D cur) e fr):=by
  simp [putRow,mapBlock,Array.getElem?_modify,h,onCells]

theorem putRow_kep (w:World) (b q:Nat) (D:Array (Option Nat)):Kep (fun k=>k=b) w (putRow encO (Sort.ahead w q) b 0 D):=by
  refine ⟨rfl,rfl,rfl,by simp [putRow,mapBlock,Sort.ahead],fun k _ hn=>?_⟩
  simp only [putRow,mapBlock,Sort.ahead,Array.getElem?_modify]
  rw [if_neg (fun h=>hn h.symm)]

theorem owns_cell {w:World} {b:Nat} {e:TypeId} {n c:Nat} {xs:List Value} (h:w.ownsRow 0 e 1 (.slice (some ⟨b,0,none⟩) n c) n xs):∃ cur,w.heap[b]? = some (.cells cur e (0,0))∧cur.size=c∧n≤c∧c≤maxLen∧xs.length=n∧(∀ j v,xs[j]? = some v→w.cell? ⟨b,j,none⟩=some v)∧∀ j,w.frozen? ⟨b,j,none⟩=false:=by
  obtain ⟨h1,h2⟩:=h
  rcases h2 with ⟨q,_⟩ | ⟨g,cap,cur,q,_,hb,hn,hm,hs,ht⟩
  · cases q
  · cases q
    refine ⟨cur,hb,by omega,hn,hm,by omega,fun j v hj=>?_,fun j=>by simp [World.frozen?,hb]⟩
    rw [← ht,List.getElem?_take] at hj
    split at hj
    · simp only [World.cell?,hb]
      rwa [Array.getElem?_toList] at hj
    · cases hj

theorem delete_any (w:World) (b n c i:Nat) (zs:List Nat) (hr:w.ownsRow 0 94 1 (.slice (some ⟨b,0,none⟩) n c) n (zs.map optr)) (hi:i<n) :
    Calls Tryz.prog 125 #[.slice (some ⟨b,0,none⟩) n c,.int .i64 i,.int .i64 ((i:Int)+1)] w fun e w' =>
      e = .returned (.slice (some ⟨b,0,none⟩) (n - 1) c)∧w'.ownsRow 0 94 1 (.slice (some ⟨b,0,none⟩) (n - 1) c) (n - 1) ((zs.eraseIdx i).map optr)∧Kep (fun k=>k=b) w w':=by
  obtain ⟨cur,hb,hs,hn,hm,hl,hc,hf⟩:=owns_cell hr
  rw [List.length_map] at hl
  have hm':c≤9223372036854775807:=by unfold maxLen at hm;omega
  obtain ⟨d,hd⟩ : ∃ d:Array (Option Nat),d=(zs.map some).toArray:=⟨_,rfl⟩
  have hdz:d.size=n:=by rw [hd];simp [hl]
  have hH:Holds encO w b 0 d:=fun j hj=>by
    refine ⟨?_,hf _⟩
    rw [Nat.zero_add]
    refine hc j _ ?_
    have hj':j<zs.length:=by omega
    rw [getElem!_pos d j hj]
    simp [hd,hj',encO_some]
  have i90:(Tryz.prog.info? 94).map (fun i=>i.size)=some 1:=by kernel_rfl
  obtain ⟨i0,hi0,hz1⟩ : ∃ i0,Tryz.prog.info? 94=some i0∧i0.size=1:=by
    cases q:Tryz.prog.info? 94 with
    | none=>rw [q] at i90;cases i90
    | some j=>rw [q] at i90;exact ⟨j,rfl,by simpa using i90⟩
  have h:=AnyE.slices_Delete Tryz.ldel encO encO_one none Tryz.zeroValue94 i0 hi0 hz1 b 0 c i (i+1) d w hH (by omega) hm' (by omega) (by omega)
  change Calls Tryz.prog 125 _ _ _ at h
  rw [hdz] at h
  refine h.mono ?_
  rintro e w' ⟨rfl,q,rfl⟩
  have e1:n - (i+1 - i)=n - 1:=by omega
  have e2:i+1 - i=1:=by omega
  rw [e1,e2]
  refine ⟨rfl,?_,putRow_kep _ _ _ _⟩
  have hD:d.toList.take i ++ d.toList.drop (i+1) ++ List.replicate 1 none=(zs.eraseIdx i).map some ++ [none]:=by
    rw [hd,List.eraseIdx_eq_take_drop_succ]
    simp [List.map_take,List.map_drop]
  rw [hD]
  have hzl:(zs.eraseIdx i).length=n - 1:=by rw [List.length_eraseIdx_of_lt (by omega),hl]
  refine owns_of_cells (putRow_block (Sort.ahead w q) b _ cur _ _ hb) (by simp [putCells,hs]) (by omega) hm (by simp [hzl]) fun j v hj=>?_
  rw [List.getElem?_map] at hj
  cases hq:(zs.eraseIdx i)[j]? with
  | none=>rw [hq] at hj;cases hj
  | some z =>
    rw [hq] at hj
    obtain rfl:optr z=v:=by simpa using hj
    have hjl:j<n - 1:=by have:=(List.getElem?_eq_some_iff.1 hq).1;omega
    have:=cell?_putRow encO (Sort.ahead w q) b 0 d ((zs.eraseIdx i).map some ++ [none]).toArray hH (by simp [hzl,hdz];omega) j (by simp [hzl];omega)
    rw [Nat.zero_add] at this
    have hz:(zs.eraseIdx i)[j]'(by omega)=z:=(List.getElem?_eq_some_iff.1 hq).2
    have hv:((zs.eraseIdx i).map some ++ [none]).toArray[j]! = some z:=by
      rw [getElem!_pos _ j (by simp [hzl];omega)]
      simp [hzl,hjl,hz]
    rw [this,hv]
    rfl

set_option maxHeartbeats 1000000 in
set_option maxRecDepth 100000 in
theorem remove_any (w:World) (q b n c x i:Nat) (zs:List Nat) (hq:Own w ⟨q,1,none⟩ (.slice (some ⟨b,0,none⟩) n c)) (h60:n≤1000000) (hr:w.ownsRow 0 94 1 (.slice (some ⟨b,0,none⟩) n c) n (zs.map optr)) (hp:∀ (j z:Nat),zs[j]? = some z→Plain w z) (hi:zs[i]? = some x) (hne:∀ j,j<i→zs[j]? ≠ some x) (hbq:q≠b) :
    Calls Tryz.prog 102 #[.pointer (some ⟨q,0,none⟩),.pointer (some ⟨x,0,none⟩)] w fun e w'=>e = .returned (.tuple #[])∧∃ W,w'=W.setCell ⟨q,1,none⟩ (.slice (some ⟨b,0,none⟩) (n - 1) c)∧W.ownsRow 0 94 1 (.slice (some ⟨b,0,none⟩) (n - 1) c) (n - 1) ((zs.eraseIdx i).map optr)∧Kep (fun k=>k=b) w W:=by
  obtain ⟨cur,hb,hs,hn,hm,hl,hc,hf⟩:=owns_cell hr
  rw [List.length_map] at hl
  have hil:i<n:=by have:=(List.getElem?_eq_some_iff.1 hi).1;omega
  have HI:=hide (index_any w b n c x i zs hl h60 (fun j hj=>hc j _ (by rw [List.getElem?_map,List.getElem?_eq_getElem hj];rfl)) hp hi hne)
  have HD:=hide (delete_any w b n c i zs hr hil)
  have HQ:=hide hq
  have c1:=hq.cell
  have c2:=hq.free
  have h0:(0:Int)≤(i:Int):=by omega
  have h1:IntKind.i64.wrap ((i:Int)+1)=(i:Int)+1:=by rw [IntKind.wrap_i64];omega
  clear hq hr hp hi hne hc hf hb hs
  go_enter Tryz.func102,Tryz.ntmps102
  go_wp2_with (go_at_call 124;refine HI.out.mono ?_;rintro e w' ⟨rfl,e⟩;subst e)
  refine HD.out.mono ?_
  rintro e W1 ⟨rfl,hR,hK⟩
  have o1:=HQ.out.kep hK hbq
  have c3:=o1.cell
  have c4:=o1.free
  have HR:=hide hR
  have HK:=hide hK
  clear hR hK o1 c1 c2
  go_wp2
  go_end0
  exact ⟨rfl,_,rfl,HR.out,HK.out⟩

end Go.Proofs.YtcfoobhihhndjaaGreat
