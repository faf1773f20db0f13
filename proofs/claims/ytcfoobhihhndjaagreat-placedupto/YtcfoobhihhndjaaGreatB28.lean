
import Derived.Test.YtcfoobhihhndjaaGreatB01
import Derived.Test.YtcfoobhihhndjaaGreatB21
import Derived.Test.YtcfoobhihhndjaaGreatB24
import Derived.Test.YtcfoobhihhndjaaGreatB26
import Derived.Test.YtcfoobhihhndjaaGreatB27
namespace Go.Proofs.YtcfoobhihhndjaaGreat

section
open Go.Shelf Go.RowKit Go.Lib Go.Sort

def odCells (l:List Od):List Value:=l.flatMap Od.cells

theorem odCells_len (l:List Od):(odCells l).length=l.length * 8:=by
  induction l with
  | nil=>rfl
  | cons o l ih =>
    have:odCells (o :: l)=o.cells ++ odCells l:=by simp [odCells]
    rw [this,List.length_append,ih]
    simp [Od.cells]
    omega

theorem odCells_get:∀ (l:List Od) (j:Nat),(odCells l)[j]? = (l[j / 8]?).bind fun o=>o.cells[j % 8]?
  | [],j=>by simp [odCells]
  | o :: l,j=>by
    have e:odCells (o :: l)=o.cells ++ odCells l:=by simp [odCells]
    have hc:o.cells.length=8:=rfl
    rw [e]
    by_cases h:j<8
    · rw [List.getElem?_append_left (by omega),Nat.div_eq_of_lt h,Nat.mod_eq_of_lt h]
      rfl
    · obtain ⟨k,rfl⟩ : ∃ k,j=k+8:=⟨j - 8,by omega⟩
      rw [List.getElem?_append_right (by omega),hc,Nat.add_sub_cancel,odCells_get l k,Nat.add_div_right k (by omega),Nat.add_mod_right]
      rfl

theorem flat_eq [Inhabited Od] (d:Array Od):(flatK Od.cells 8 d).toList=odCells d.toList:=by
  apply List.ext_getElem?
  intro j
  by_cases h:j<d.size * 8
  · have h8:j / 8<d.size:=by omega
    have h9:j % 8<8:=by omega
    rw [odCells_get,Array.getElem?_toList,Array.getElem?_eq_getElem (by simpa using h),Array.getElem?_toList,Array.getElem?_eq_getElem h8,Option.bind_some]
    have:=get_flatK Od.cells 8 d j h
    rw [getElem!_pos _ j (by simpa using h),getElem!_pos d _ h8] at this
    rw [this]
    have hc:d[j / 8].cells.length=8:=rfl
    rw [getElem!_pos _ _ (by rw [hc];exact h9)]
    exact (List.getElem?_eq_getElem (by rw [hc];exact h9)).symm
  · rw [List.getElem?_eq_none (by simp;omega),List.getElem?_eq_none (by rw [odCells_len];simp;omega)]

theorem sort_row {w:World} {B:Nat} {v:Value} {l:List Od} (hl:l.length≤60) (hB:B≤w.heap.size) (h:w.ownsRow B 40 8 v l.length (odCells l)) :
    Calls Tryz.prog 114 #[v,.func (.func 115) #[] #[]] w fun e w'=>e = .returned (.tuple #[])∧∃ l':List Od,l'.Perm l∧l'.Pairwise (fun a b=>a.id≤b.id)∧w'.ownsRow B 40 8 v l.length (odCells l')∧RowKit.Below B w w':=by
  haveI:Inhabited Od:=⟨⟨0,0,0,0,0,0,0,0⟩⟩
  rcases h.2 with ⟨e0,e1⟩ | ⟨g,cap,cur,rfl,hb,hg,hn,hm,hs,ht⟩
  · have hl0:l=[]:=List.length_eq_zero_iff.1 e1
    rw [e0]
    refine (AnyF.slices_SortFunc_none Tryz.lsort none 0 _ w).mono fun e w' ⟨h1,h2⟩=>⟨h1,l,.refl _,by rw [hl0];exact .nil,?_,?_⟩
    · rw [h2];rw [← e0];exact h
    · rw [h2];exact RowKit.Below.refl _ _
  · have hlt:g<w.heap.size:=(Array.getElem?_eq_some_iff.1 hg).1
    have hH:HoldsK Od.cells 8 w g 0 l.toArray:=by
      intro j hj
      have hj':j<l.length * 8:=by simpa using hj
      refine ⟨?_,by simp [World.frozen?,hg]⟩
      have e1:(cur.toList.take (l.length * 8))[j]? = (odCells l)[j]?:=by rw [ht]
      rw [List.getElem?_take,if_pos hj',Array.getElem?_toList] at e1
      have e2:=congrArg (fun z:List Value=>z[j]?) (flat_eq l.toArray)
      simp only [Array.getElem?_toList] at e2
      rw [Array.getElem?_eq_getElem hj] at e2
      simp only [World.cell?,hg,Nat.zero_add,Option.isSome_none,Bool.false_eq_true,if_false]
      rw [e1,getElem!_pos _ j hj]
      exact e2.symm
    have hc:=sort_any g 0 cap l.toArray w hH hlt (by simp;omega)
    rw [List.size_toArray] at hc
    refine hc.mono ?_
    rintro e w' ⟨rfl,d',n,os,⟨p1,_,p3⟩,hso,rfl⟩
    replace p1:d'.size=l.length:=p1.trans (by simp)
    have x1:d'.extract 0 l.length=d':=by rw [← p1];exact Array.extract_size
    have x2:l.toArray.extract 0 l.length=l.toArray:=by
      have:l.toArray.size=l.length:=by simp
      rw [← this];exact Array.extract_size
    rw [x1,x2] at p3
    have hcs:(flatK Od.cells 8 d').size≤cur.size:=by rw [size_flatK,p1,hs];exact Nat.mul_le_mul_right 8 hn
    refine ⟨rfl,d'.toList,p3,?_,⟨?_,.inr ⟨g,cap,putCells id 0 (flatK Od.cells 8 d') cur,rfl,hb,?_,hn,hm,by simpa [putCells] using hs,?_⟩⟩,?_⟩
    · rw [List.pairwise_iff_getElem]
      intro i j hi hj hij
      have:=hso i j (by omega) hij (by simpa [p1] using hj)
      rw [ltOd,getElem!_pos d' j (by simpa using hj),getElem!_pos d' i (by simpa using hi)] at this
      simp at this
      simpa using this
    · rw [odCells_len];simp [p1]
    · unfold sortWorldK putRowK
      rw [heap_grow_old _ _ (by simpa using hlt)]
      simp [putRow,mapBlock,Sort.ahead,Array.getElem?_modify,hg,onCells]
    · rw [← flat_eq]
      apply List.ext_getElem?
      intro j
      rw [List.getElem?_take,Array.getElem?_toList,Array.getElem?_toList]
      by_cases hj:j<l.length * 8
      · have hjc:j<cur.size:=by rw [size_flatK,p1] at hcs;omega
        have hjf:j<(flatK Od.cells 8 d').size:=by rw [size_flatK,p1];exact hj
        simp only [if_pos hj,putCells,Array.getElem?_mapIdx,Array.getElem?_eq_getElem hjc,Option.map_some]
        rw [if_pos ⟨by omega,by omega⟩,Array.getElem?_eq_getElem hjf,Nat.sub_zero,getElem!_pos _ j hjf]
        rfl
      · rw [if_neg hj,Array.getElem?_eq_none (by rw [size_flatK,p1];omega)]
    · refine ⟨rfl,rfl,rfl,?_,fun k hk=>?_⟩
      · unfold sortWorldK putRowK;simp [putRow,mapBlock,Sort.ahead]
      · unfold sortWorldK putRowK
        rw [heap_grow_old _ _ (by simp;omega)]
        simp [putRow,mapBlock,Sort.ahead,Array.getElem?_modify,show g≠k by omega]
end

section
open Go.RowKit Go.Sort

theorem infoOrder:(Tryz.prog.info? 40).map (fun i=>(i.zero,i.size,i.bytes))=some (some (.agg #[.int .i64 0,.int .i64 0,.int .i64 0,.int .i64 0,.int .i64 0,.int .i64 0,.int .i64 0,.int .i64 0]),8,64):=by kernel_rfl
theorem Od.oneCell' (l:Od):∀ u,u∈l.cells→u.oneCell'=true:=by simp [Od.cells,Value.oneCell']
theorem odCells_append (a b:List Od):odCells (a ++ b)=odCells a ++ odCells b:=by simp [odCells]

def ofT (t:Int) (l:List Od):List Od:=l.filter fun o=>decide (o.t=t)

theorem ofT_take {t:Int} {l:List Od} {k:Nat} (hk:k<l.length):ofT t (l.take (k+1))=ofT t (l.take k) ++ if l[k].t=t then [l[k]] else []:=by
  unfold ofT
  rw [List.take_add_one,List.getElem?_eq_getElem hk,List.filter_append]
  congr 1
  by_cases h:l[k].t=t <;> simp [h]

theorem ofT_len (t:Int) (l:List Od):(ofT t l).length≤l.length:=List.length_filter_le _ _

def OrdPost (w:World) (m:Mt) (t:Int) (e:Ending) (w':World):Prop :=
  Kep non w w'∧((¬ okI m.T t∧e = .returned (.tuple #[.slice none 0 0,.int .i64 2]))∨(okI m.T t∧∃ (v:Value) (l:List Od),l.Perm (ofT t m.all)∧l.Pairwise (fun a b=>a.id≤b.id)∧w'.ownsRow w.heap.size 40 8 v l.length (odCells l)∧e = .returned (.tuple #[v,.int .i64 0])))

theorem Kep.past {a w w':World} {B:Nat} (h:Kep non a w) (hB:a.heap.size≤B) (b:RowKit.Below B w w'):Kep non a w' :=
  ⟨b.os.trans h.os,b.tape.trans h.tape,b.output.trans h.output,Nat.le_trans h.size b.size,fun k hk hn=>(b.block k (by omega)).trans (h.block k hk hn)⟩

set_option maxRecDepth 100000 in
set_option maxHeartbeats 4000000 in
theorem orders_any (w:World) (L:PL) (m:Mt) (N t:Int) (R:PRep w L m) (ok:m.Ok N) :
    Calls Tryz.prog 56 #[.pointer (some ⟨L.x,0,none⟩),.int .i64 t] w fun e w'=>OrdPost w m t e w':=by
  have c2:=R.cA.cell
  have bT:=ok.T8
  by_cases ht:okI m.T t
  · have i1:=hide (inB_okI ht)
    have hlen:=R.len_all
    have h60:=ok.a60
    have HW:=hide (waiting_any w L m N R ok (by omega))
    have HF:=hide (forall2_get R.odall).2
    clear R ok
    go_enter Tryz.func56,Tryz.ntmps56
    go_wp2_with (first | (go_at_call 63;refine (hasTrader_b _ _ _ _ _ _ bT c2).mono ?_;rw [i1.out];rintro e w ⟨rfl,rfl⟩))
    refine HW.out.mono ?_
    rintro e W ⟨v,rfl,hown,hB⟩
    obtain ⟨ra,rc,rfl⟩:=row_form hown
    have HRow:=hide hown
    clear hown HW
    have HB:=hide hB
    obtain ⟨i0,hi0,hz0,hz1,hz2⟩:=info_parts infoOrder
    go_wp2
    go_loopw [6,16] (fun a i wr=>∃ k:Nat,k≤m.all.length∧i = .int .i64 k∧wr.ownsRow W.heap.size 40 8 a (ofT t (m.all.take k)).length (odCells (ofT t (m.all.take k)))∧Kep non W wr) (fun _ i _=>m.all.length - (intOf i).toNat)
    case atStart=>exact ⟨0,by omega,rfl,⟨rfl,.inl ⟨rfl,rfl⟩⟩,Kep.refl _ _⟩
    case round =>
      obtain ⟨k,hk,rfl,hrow,hB2⟩:=hrel
      obtain ⟨sa,sc,rfl⟩:=row_form hrow
      by_cases hlt:k<m.all.length
      · have hb:k<(L.all m).length:=by omega
        have hlt':(k:Int)<((L.all m).length:Int):=by omega
        obtain ⟨pb,pc,hpv,_,_⟩:=HRow.out.form (by omega)
        simp only [Value.slice.injEq,true_and] at hpv
        obtain ⟨rfl,rfl⟩:=hpv
        have c0:wr.cell? ⟨pb,k,none⟩=some (.pointer (some ⟨(L.all m)[k],0,none⟩)):=by
          refine hB2.cell ?_ (fun q=>q)
          rw [HRow.out.cellAt k (by omega)]
          simp [hb,optr]
        have od:OdAt wr (L.all m)[k] m.all[k]:=fun j v q=>(((HF.out k _ _ (by simp [hb]) (by simp [hlt])).below hB) j v q).kep hB2 (fun q=>q)
        have o0:=(od 0 _ rfl).cell
        have o1:=(od 1 _ rfl).cell
        have o2:=(od 2 _ rfl).cell
        have o3:=(od 3 _ rfl).cell
        have o4:=(od 4 _ rfl).cell
        have o5:=(od 5 _ rfl).cell
        have o6:=(od 6 _ rfl).cell
        have o7:=(od 7 _ rfl).cell
        have HS:=hide (ofT_take (t:=t) hlt)
        have gl:(ofT t (m.all.take k)).length≤60:=by have:=ofT_len t (m.all.take k);have:=List.length_take_le k m.all;omega
        generalize m.all[k]=o at *
        generalize (L.all m)[k]=x at *
        generalize ofT t (m.all.take k)=gs at *
        clear od
        have HK:=hide hB2
        have HR:=hide hrow
        clear hB2 hrow
        by_cases e1:o.t=t
        · subst e1
          have e3:Hid (gs ++ [o]=ofT o.t (m.all.take (k+1))):=hide (by rw [HS.out,if_pos rfl])
          have lW:=HK.out.size
          go_wp2_with (at_builtin;refine wpList_append_lies _ rfl _ _ _ rfl W.heap.size 40 i0 _ 8 64 Tryz.underlying98 hi0 hz0 hz1 hz2 rfl (by omega) _ gs.length (odCells gs) rfl (by exact HR.out.alloc _) ⟨wr.heap.size,0,none⟩ 1 1 (Od.cells o) rfl rfl (by exact news_of_last' #[_,_,_,_,_,_,_,_] 40 (by simp)) (Od.oneCell' _) (by omega) (by simp only [maxLen];omega) (by omega) (by simp;omega) (wr.heap.size+1) (by simp) ?_)
          intro gg cap w1 hown1 hgrow hat hlt1
          have HK1:=hide ((HK.out.alloc _).grown hgrow (fun b hb=>.inr (HR.out.lt b hb).1))
          have HR1:=hide hown1
          clear hown1 hgrow hat
          go_wp2
          exact ⟨⟨k+1,by omega,by go_num,by rw [← e3.out,odCells_append];simpa [odCells] using HR1.out,HK1.out⟩,by simp [intOf];omega⟩
        · have e3:Hid (gs=ofT t (m.all.take (k+1))):=hide (by rw [HS.out,if_neg e1,List.append_nil])
          go_wp2
          exact ⟨⟨k+1,by omega,by go_num,by rw [← e3.out];exact HR.out,HK.out⟩,by simp [intOf];omega⟩
      · have ek:m.all.take k=m.all:=List.take_of_length_le (by omega)
        rw [ek] at hrow
        have HSo:=hide (sort_row (by have:=ofT_len t m.all;omega) hB2.size hrow)
        have HK:=hide hB2
        have HT:=hide ht
        rw [ek]
        generalize hnn:(ofT t m.all).length=nn at *
        have HN:=hide hnn
        clear hrow hB2 hnn
        go_wp2_with fail
        refine HSo.out.mono ?_
        rintro e w2 ⟨rfl,l',hp,hs,hr,hb⟩
        have HP:=hide (show OrdPost w m t (.returned (.tuple #[.slice sa nn sc,.int .i64 0])) w2 from ⟨(Kep.of_below HB.out).trans (HK.out.past (Nat.le_refl _) hb),.inr ⟨HT.out,_,l',hp,hs,ownsRow_mono (by rw [hp.length_eq,HN.out];exact hr) HB.out.size,rfl⟩⟩)
        clear hp hs hr hb
        go_wp2
        go_ret2
        exact HP.out
  · have i1:=hide (inB_not ht)
    have HP:=hide (show OrdPost w m t (.returned (.tuple #[.slice none 0 0,.int .i64 2])) w from ⟨Kep.refl _ _,.inl ⟨ht,rfl⟩⟩)
    go_enter Tryz.func56,Tryz.ntmps56
    go_wp2_with (first | (go_at_call 63;refine (hasTrader_b _ _ _ _ _ _ bT c2).mono ?_;rw [i1.out];rintro e w' ⟨rfl,rfl⟩))
    go_ret2
    exact HP.out
end

section
open Go.RowKit Go.Sort

def Moves (m m':Mt):Prop :=
  m'=m∨(∃ t n,m'=payM m t n)∨(∃ t n,m'=drawM m t n)∨(∃ t h g n,m'=bringM m t h g n)∨(∃ t h g n,m'=takeM m t h g n)∨(∃ t f o g n,m'=shipM m t f o g n)∨m'=tickM m∨(∃ t id c,Cancels m t id c m')∨(∃ t id p q n ts c,Changes m t id p q n ts c m')∨(∃ o,m'=placeM m o)

structure Does (N:Int) (m:Mt) (mon p0 p1:Int) (m':Mt) (mon' p0' p1':Int):Prop where
  mv:Moves m m'
  inv:m'.Inv N
  nu:m'.nu≤m.nu+1
  mon:m'.money - mon'=m.money - mon
  s0:m'.stock 0 - p0'=m.stock 0 - p0
  s1:m'.stock 1 - p1'=m.stock 1 - p1

section
variable {m m':Mt} {N mon p0 p1:Int}

theorem Does.sums (mv:Moves m m') (I:m'.Inv N) (hn:m'.nu≤m.nu+1) (S:SameSums m m'):Does N m mon p0 p1 m' mon p0 p1:=⟨mv,I,hn,by rw [S.1],by rw [S.2],by rw [S.2]⟩

theorem Does.place (I:m.Inv N) (hn:m.nu+1≤N) (o:Od):Does N m mon p0 p1 (placeM m o) mon p0 p1 :=
  .sums (.inr (.inr (.inr (.inr (.inr (.inr (.inr (.inr (.inr ⟨o,rfl⟩))))))))) (I.place hn o) (place_nu m o) (place_sums I hn o)
end

structure Dims (m m':Mt):Prop where
  T:m'.T=m.T
  G:m'.G=m.G
  H:m'.H=m.H
  rt:m'.rt=m.rt

theorem Dims.refl (m:Mt):Dims m m:=⟨rfl,rfl,rfl,rfl⟩
theorem Dims.trans {a b c:Mt} (h:Dims a b) (k:Dims b c):Dims a c:=⟨k.T.trans h.T,k.G.trans h.G,k.H.trans h.H,k.rt.trans h.rt⟩
theorem Same.dims {m m':Mt} (S:Same m m'):Dims m m':=⟨S.T,S.G,S.H,S.rt⟩
theorem dims_release (m:Mt) (t h g s:Nat) (o:Od):Dims m (releaseM m t h g s o):=by unfold releaseM;split <;> exact ⟨rfl,rfl,rfl,rfl⟩
theorem dims_hold (m:Mt) (t h g s:Nat) (o:Od):Dims m (holdH m t h g s o):=by unfold holdH;split <;> exact ⟨rfl,rfl,rfl,rfl⟩
theorem dims_setBk (m:Mt) (h g s:Nat) (os:List Od):Dims m (m.setBk h g s os):=⟨rfl,rfl,rfl,rfl⟩
theorem dims_back (m:Mt) (h g s i:Nat) (o:Od):Dims m (backM m h g s i o):=(dims_setBk m h g s _).trans (dims_release _ _ _ _ _ _)
theorem dims_less (m:Mt) (h g s i:Nat) (o:Od) (n:Int):Dims m (lessM m h g s i o n):=((dims_release m _ h g s o).trans (dims_setBk _ h g s _)).trans (dims_hold _ _ _ _ _ _)
theorem dims_again (m:Mt) (h g s:Nat) (o:Od):Dims m (againM m h g s o):=(dims_hold m _ h g s o).trans (dims_setBk _ h g s _)
theorem dims_settle (m:Mt) (o:Od):Dims m (settleM m o):=by
  unfold settleM
  split
  · exact ⟨rfl,rfl,rfl,rfl⟩
  · exact dims_release _ _ _ _ _ _
theorem dims_place (m:Mt) (o:Od):Dims m (placeM m o):=by
  unfold placeM
  split
  · refine Dims.trans ?_ (dims_settle _ _)
    unfold placed
    exact Dims.trans (Dims.trans (b:={ m with nu:=m.nu+1 }) ⟨rfl,rfl,rfl,rfl⟩ (same_hold _ _).dims) (matchM_same _ _ _).dims
  · exact Dims.refl m
theorem Moves.dims {m m':Mt} (h:Moves m m'):Dims m m':=by
  rcases h with rfl | ⟨t,n,rfl⟩ | ⟨t,n,rfl⟩ | ⟨t,h,g,n,rfl⟩ | ⟨t,h,g,n,rfl⟩ | ⟨t,f,o,g,n,rfl⟩ | rfl | ⟨t,id,c,C⟩ | ⟨t,id,p,q,n,ts,c,C⟩ | ⟨o,rfl⟩
  · exact Dims.refl _
  · unfold payM;split <;> exact ⟨rfl,rfl,rfl,rfl⟩
  · unfold drawM;split <;> exact ⟨rfl,rfl,rfl,rfl⟩
  · unfold bringM;split <;> exact ⟨rfl,rfl,rfl,rfl⟩
  · unfold takeM;split <;> exact ⟨rfl,rfl,rfl,rfl⟩
  · unfold shipM;split <;> exact ⟨rfl,rfl,rfl,rfl⟩
  · unfold tickM
    split
    · have e:=landM_same m (m.tm+1) m.ld
      exact ⟨e.1,e.2.1,e.2.2.1,(landM_rest _ _ _).1⟩
    · exact Dims.refl _
  · rcases C with ⟨_,_,rfl⟩ | ⟨_,_,_,rfl⟩ | ⟨_,h,g,s,i,o,S,_,rfl⟩
    · exact Dims.refl _
    · exact Dims.refl _
    · exact dims_back _ _ _ _ _ _
  · rcases C with ⟨_,_,_,_,rfl⟩ | ⟨_,_,_,_,_,rfl⟩ | ⟨_,h,g,s,i,o,S,(⟨_,_,_,_,rfl⟩ | ⟨hf,hA,_,_,_,rfl⟩ | ⟨hf,hA,hE,_,_,_,rfl⟩ | ⟨hf,hA,hE,_,_,_,rfl⟩)⟩
    · exact Dims.refl _
    · exact Dims.refl _
    · exact Dims.refl _
    · exact dims_less _ _ _ _ _ _ _
    · exact (dims_back _ _ _ _ _ _).trans (dims_place _ _)
    · exact (dims_back _ _ _ _ _ _).trans (dims_again _ _ _ _ _)
  · exact dims_place _ _
end

section
open Go.RowKit Go.Sort

def Ahd (s:Nat) (a b:Od):Prop:=aheadB s a b=true

theorem ahd_iff (s:Nat) (a b:Od):Ahd s a b ↔ ((s=0∧(b.p<a.p∨a.p=b.p∧a.id<b.id))∨(s≠0∧(a.p<b.p∨a.p=b.p∧a.id<b.id))):=by
  unfold Ahd aheadB
  by_cases e:s=0 <;> simp [e]
theorem ahd_trans {s:Nat} {a b c:Od} (h:Ahd s a b) (k:Ahd s b c):Ahd s a c:=by
  rw [ahd_iff] at h k ⊢
  omega
theorem ahd_asymm {s:Nat} {a b:Od} (h:Ahd s a b):¬ Ahd s b a:=by
  intro k
  rw [ahd_iff] at h k
  omega
theorem ahd_total (s:Nat) {a b:Od} (h:a.id≠b.id):Ahd s a b∨Ahd s b a:=by
  rw [ahd_iff,ahd_iff]
  omega
theorem slot_spec (ah:Nat→Bool):∀ n,(slot ah n=0∨∃ j,slot ah n=j+1∧ah j=false)∧∀ j,slot ah n≤j→j<n→ah j=true
  | 0=>⟨.inl rfl,fun j _ h=>by omega⟩
  | k+1=>by
    unfold slot
    by_cases e:ah k=true
    · rw [if_pos e]
      obtain ⟨h1,h2⟩:=slot_spec ah k
      exact ⟨h1,fun j hj hn=>if q:j=k then by rw [q];exact e else h2 j hj (by omega)⟩
    · rw [if_neg e]
      exact ⟨.inr ⟨k,rfl,by simpa using e⟩,fun j hj hn=>by omega⟩

theorem slot_eq (ah:Nat→Bool) {i n:Nat} (hi:i≤n) (h1:∀ j,j<i→ah j=false) (h2:∀ j,i≤j→j<n→ah j=true):slot ah n=i:=by
  obtain ⟨a,b⟩:=slot_spec ah n
  have le:=slot_le ah n
  rcases Nat.lt_trichotomy (slot ah n) i with q | q | q
  · have:=b _ (Nat.le_refl _) (by omega)
    rw [h1 _ q] at this
    cases this
  · exact q
  · rcases a with a | ⟨j,a1,a2⟩
    · omega
    · rw [h2 j (by omega) (by omega)] at a2
      cases a2

theorem put_sorted {s:Nat} {l:List Od} (h:l.Pairwise (Ahd s)) {o:Od} (hid:∀ z∈l,z.id≠o.id):(putAt l (slot (ahAt l s o) l.length) o).Pairwise (Ahd s):=by
  have le:=slot_le (ahAt l s o) l.length
  obtain ⟨a,b⟩:=slot_spec (ahAt l s o) l.length
  generalize slot (ahAt l s o) l.length=k at *
  have h':=h
  rw [← List.take_append_drop k l] at h'
  obtain ⟨p1,p2,p3⟩:=List.pairwise_append.1 h'
  have hd:∀ z∈l.drop k,Ahd s o z:=by
    intro z hz
    obtain ⟨i,hi,rfl⟩:=List.mem_iff_getElem.1 hz
    rw [List.length_drop] at hi
    have:=b (k+i) (by omega) (by omega)
    unfold ahAt at this
    rw [List.getElem?_eq_getElem (by omega)] at this
    rw [List.getElem_drop]
    exact this
  have ht:∀ z∈l.take k,Ahd s z o:=by
    intro z hz
    rcases a with a | ⟨j,a1,a2⟩
    · subst a;simp at hz
    · subst a1
      have hj:j<l.length:=by omega
      have q:Ahd s l[j] o:=by
        unfold ahAt at a2
        rw [List.getElem?_eq_getElem hj] at a2
        rcases ahd_total s (hid l[j] (List.getElem_mem hj)) with q | q
        · exact q
        · unfold Ahd at q
          simp only [] at a2
          rw [q] at a2
          cases a2
      obtain ⟨i,hi,rfl⟩:=List.mem_iff_getElem.1 hz
      rw [List.length_take] at hi
      rw [List.getElem_take]
      by_cases e:i=j
      · subst e;exact q
      · exact ahd_trans (List.pairwise_iff_getElem.1 h i j (by omega) hj (by omega)) q
  unfold putAt
  refine List.pairwise_append.2 ⟨p1,List.pairwise_cons.2 ⟨hd,p2⟩,fun x hx y hy=>?_⟩
  rcases List.mem_cons.1 hy with rfl | hy
  · exact ht x hx
  · exact p3 x hx y hy

theorem put_again {s:Nat} {l:List Od} (h:l.Pairwise (Ahd s)) {i:Nat} {o:Od} (ho:l[i]? = some o):putAt (l.eraseIdx i) (slot (ahAt (l.eraseIdx i) s o) (l.eraseIdx i).length) o=l:=by
  obtain ⟨hi,ho'⟩:=List.getElem?_eq_some_iff.1 ho
  have hl:(l.eraseIdx i).length=l.length - 1:=List.length_eraseIdx_of_lt hi
  have e:slot (ahAt (l.eraseIdx i) s o) (l.eraseIdx i).length=i:=by
    refine slot_eq _ (by omega) (fun j hj=>?_) (fun j hj hn=>?_)
    · unfold ahAt
      rw [List.getElem?_eraseIdx_of_lt hj,List.getElem?_eq_getElem (by omega)]
      have:=List.pairwise_iff_getElem.1 h j i (by omega) hi hj
      rw [ho'] at this
      have:=ahd_asymm this
      unfold Ahd at this
      simpa using this
    · unfold ahAt
      rw [List.getElem?_eraseIdx_of_ge hj,List.getElem?_eq_getElem (by omega)]
      have:=List.pairwise_iff_getElem.1 h i (j+1) hi (by omega) (by omega)
      rw [ho'] at this
      exact this
  rw [e]
  unfold putAt
  rw [List.eraseIdx_eq_take_drop_succ]
  have t1:(l.take i ++ l.drop (i+1)).take i=l.take i:=by
    rw [List.take_append_of_le_length (by simp;omega),List.take_take,Nat.min_self]
  have t2:(l.take i ++ l.drop (i+1)).drop i=l.drop (i+1):=by
    rw [List.drop_append_of_le_length (by simp;omega)]
    simp
  rw [t1,t2,← ho',List.getElem_cons_drop,List.take_append_drop]

def Od.key (o:Od):Od:={ o with q:=0 }
theorem ahd_key (s:Nat) (a b:Od):Ahd s a.key b.key ↔ Ahd s a b:=by rw [ahd_iff,ahd_iff];rfl
theorem key_q (o:Od) (n:Int):({ o with q:=n }:Od).key=o.key:=rfl

def cntI (n:Int):List Od→Int
  | []=>0
  | o :: r=>(if o.id=n then 1 else 0)+cntI n r
theorem cntI_app (n:Int):∀ a b,cntI n (a ++ b)=cntI n a+cntI n b
  | [],b=>by simp [cntI]
  | o :: r,b=>by simp only [List.cons_append,cntI,cntI_app n r b];omega
theorem adds_cnt (n:Int):Adds (cntI n):=⟨rfl,cntI_app n⟩
theorem cntI_sub (n:Int) {a b:List Od} (h:a.Sublist b):cntI n a≤cntI n b:=by
  induction h with
  | slnil=>exact Int.le_refl _
  | cons x _ ih=>simp only [cntI];split <;> omega
  | cons_cons x _ ih=>simp only [cntI];omega
theorem cntI_zero {n:Int} {l:List Od} (h:∀ o∈l,o.id≠n):cntI n l=0:=by
  induction l with
  | nil=>rfl
  | cons x r ih =>
    simp only [cntI,if_neg (h x (List.mem_cons_self ..)),ih fun o ho=>h o (List.mem_cons_of_mem _ ho)];omega
structure Jk (H G:Nat) (B:Nat→Nat→Nat→List Od):Prop where
  how:∀ h g s o,h<H→g<G→s<2→o∈B h g s→o.w=0∨o.w=3
  ids:∀ n,cntI n (upH G B H)≤1
  srt:∀ h g s,h<H→g<G→s<2→(B h g s).Pairwise (Ahd s)
  spr:∀ h g a b,h<H→g<G→a∈B h g 0→b∈B h g 1→a.p<b.p

def setB (B:Nat→Nat→Nat→List Od) (h g s:Nat) (l:List Od):Nat→Nat→Nat→List Od:=fun a b c=>if a=h∧b=g∧c=s then l else B a b c

theorem Jk.sub {H G:Nat} {B:Nat→Nat→Nat→List Od} (J:Jk H G B) {h g s:Nat} (hh:h<H) (hg:g<G) (hs:s<2) {l:List Od} (hl:l.Sublist (B h g s)):Jk H G (setB B h g s l):=by
  have mem:∀ a b c o,o∈setB B h g s l a b c→o∈B a b c:=by
    intro a b c o ho
    unfold setB at ho
    split at ho
    · rename_i e;obtain ⟨rfl,rfl,rfl⟩:=e;exact hl.subset ho
    · exact ho
  refine ⟨fun a b c o h1 h2 h3 h4=>J.how a b c o h1 h2 h3 (mem _ _ _ _ h4),fun n=>?_,fun a b c h1 h2 h3=>?_,fun a b x y h1 h2 h3 h4=>J.spr a b x y h1 h2 (mem _ _ _ _ h3) (mem _ _ _ _ h4)⟩
  · have:=adds_upH (adds_cnt n) G B h g s hg hs l H
    rw [if_pos hh] at this
    have h1:=J.ids n
    have h2:=cntI_sub n hl
    show cntI n (upH G (fun a b c=>if a=h∧b=g∧c=s then l else B a b c) H)≤1
    omega
  · unfold setB
    split
    · rename_i e;obtain ⟨rfl,rfl,rfl⟩:=e;exact (J.srt a b c h1 h2 h3).sublist hl
    · exact J.srt a b c h1 h2 h3

theorem Jk.put {H G:Nat} {B:Nat→Nat→Nat→List Od} (J:Jk H G B) {h g s:Nat} (hh:h<H) (hg:g<G) (hs:s<2) {o:Od} (hw:o.w=0∨o.w=3) (hid:∀ z∈upH G B H,z.id≠o.id)
    (hf:∀ z∈B h g (otherS s),if s=0 then o.p<z.p else z.p<o.p):Jk H G (setB B h g s (putAt (B h g s) (slot (ahAt (B h g s) s o) (B h g s).length) o)):=by
  have mem:∀ a b c x,x∈setB B h g s (putAt (B h g s) (slot (ahAt (B h g s) s o) (B h g s).length) o) a b c→x∈B a b c∨(a=h∧b=g∧c=s∧x=o):=by
    intro a b c x hx
    unfold setB at hx
    split at hx
    · rename_i e
      obtain ⟨rfl,rfl,rfl⟩:=e
      rcases mem_put hx with rfl | f
      · exact .inr ⟨rfl,rfl,rfl,rfl⟩
      · exact .inl f
    · exact .inl hx
  refine ⟨fun a b c x h1 h2 h3 h4=>?_,fun n=>?_,fun a b c h1 h2 h3=>?_,fun a b x y h1 h2 h3 h4=>?_⟩
  · rcases mem _ _ _ _ h4 with q | ⟨_,_,_,rfl⟩
    · exact J.how a b c x h1 h2 h3 q
    · exact hw
  · have:=adds_upH (adds_cnt n) G B h g s hg hs (putAt (B h g s) (slot (ahAt (B h g s) s o) (B h g s).length) o) H
    rw [if_pos hh,(adds_cnt n).put] at this
    show cntI n (upH G (fun a b c=>if a=h∧b=g∧c=s then putAt (B h g s) (slot (ahAt (B h g s) s o) (B h g s).length) o else B a b c) H)≤1
    have h1:=J.ids n
    by_cases e:o.id=n
    · have:cntI n (upH G B H)=0:=cntI_zero fun z hz=>by rw [← e];exact hid z hz
      simp only [cntI,e,if_true] at *
      omega
    · simp only [cntI,e,if_false] at *
      omega
  · unfold setB
    split
    · rename_i e
      obtain ⟨rfl,rfl,rfl⟩:=e
      exact put_sorted (J.srt a b c h1 h2 h3) fun z hz=>hid z (mem_upH.2 ⟨a,b,c,h1,h2,h3,hz⟩)
    · exact J.srt a b c h1 h2 h3
  · rcases mem _ _ _ _ h3 with q | ⟨e1,e2,e3,rfl⟩
    · rcases mem _ _ _ _ h4 with q' | ⟨e1,e2,e3,rfl⟩
      · exact J.spr a b x y h1 h2 q q'
      · subst e1 e2
        have:=hf x (by rw [← e3];exact q)
        rw [if_neg (by omega)] at this
        exact this
    · rcases mem _ _ _ _ h4 with q' | ⟨_,_,e4,_⟩
      · subst e1 e2
        have:=hf y (by rw [← e3];exact q')
        rw [if_pos (by omega)] at this
        exact this
      · omega
end

end Go.Proofs.YtcfoobhihhndjaaGreat
