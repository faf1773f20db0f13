
import Derived.Test.YtcfoobhihhndjaaGreatB09
namespace Go.Proofs.YtcfoobhihhndjaaGreat

section
open Go.RowKit Go.Sort

theorem infoTrade:(Tryz.prog.info? 67).map (fun i=>(i.zero,i.size,i.bytes))=some (some (.agg #[.int .i64 0,.int .i64 0,.int .i64 0,.int .i64 0,.int .i64 0,.int .i64 0]),6,48):=by kernel_rfl

theorem tdCells_append (a b:List Td):tdCells (a ++ b)=tdCells a ++ tdCells b:=by simp [tdCells]
theorem Td.oneCell' (l:Td):∀ u,u∈l.cells→u.oneCell'=true:=by simp [Td.cells,Value.oneCell']

structure MS (w0:World) (L0:PL) (m0:Mt) (xb:Nat) (L:PL) (m:Mt) (o:Od) (tv:Value) (ts:List Td) (W:World):Prop where
  R:PRep W L m
  c:OdAt W xb o
  pl:Plain W xb
  lx:xb<w0.heap.size
  nx:¬ L.S m xb
  xr:xb≠L.rb
  xq:xb≠L.bb
  rl:L.rb<w0.heap.size∧L.bb<w0.heap.size
  tr:W.ownsRow 0 67 6 tv ts.length (tdCells ts)
  tn:∀ b,tv.ownBlock=some b→w0.heap.size≤b∧¬ L.S m b
  ex:L.x=L0.x∧L.qb=L0.qb∧L.gb=L0.gb∧L.rb=L0.rb∧L.bb=L0.bb∧L.ab=L0.ab
  dm:m.T=m0.T∧m.G=m0.G∧m.H=m0.H
  k:Kep (fun b=>L0.S m0 b∨b=xb) w0 W
  sub:∀ b,L.S m b→L0.S m0 b∨w0.heap.size≤b

theorem MS.later {w0:World} {L0:PL} {m0:Mt} {xb:Nat} {L:PL} {m:Mt} {o:Od} {tv:Value} {ts:List Td} {W W':World} (S:MS w0 L0 m0 xb L m o tv ts W) (k:Kep non W W'):MS w0 L0 m0 xb L m o tv ts W' :=
  ⟨S.R.later k,fun j v hv=>(S.c j v hv).kep k (fun f=>f),S.pl.kep k (fun f=>f),S.lx,S.nx,S.xr,S.xq,S.rl,ownsRow_kep S.tr k (fun _ _ f=>f),S.tn,S.ex,S.dm,S.k.trans k.none,S.sub⟩

theorem MS.same {w0:World} {L0:PL} {m0:Mt} {xb:Nat} {L:PL} {m m':Mt} {o o':Od} {tv:Value} {ts:List Td} {W W':World} (S:MS w0 L0 m0 xb L m o tv ts W) (k:Kep (fun b=>L.S m b∨b=xb) W W') (R':PRep W' L m') (c':OdAt W' xb o') (pl':Plain W' xb) (d:m'.T=m.T∧m'.G=m.G∧m'.H=m.H):MS w0 L0 m0 xb L m' o' tv ts W':=by
  have hS:∀ b,L.S m' b→L.S m b:=fun b hb=>S_eq d.2.2 d.2.1 hb
  refine ⟨R',c',pl',S.lx,fun f=>S.nx (hS _ f),S.xr,S.xq,S.rl,ownsRow_kep S.tr k (fun b hb f=>?_),fun b hb=>⟨(S.tn b hb).1,fun f=>(S.tn b hb).2 (hS _ f)⟩,S.ex,⟨d.1.trans S.dm.1,d.2.1.trans S.dm.2.1,d.2.2.trans S.dm.2.2⟩,S.k.trans' k (fun i hi=>?_),fun b hb=>S.sub b (hS _ hb)⟩
  · rcases f with f | f
    · exact (S.tn b hb).2 f
    · have:=(S.tn b hb).1;have:=S.lx;omega
  · rcases hi with f | f
    · rcases S.sub i f with q | q
      · exact .inl (.inl q)
      · exact .inr q
    · exact .inl (.inr f)

theorem sub_setQ {L:PL} {m m':Mt} {n:Nat} {h g s:Nat} {v:Value} {ys:List Nat} (hG:m'.G=m.G) (hH:m'.H=m.H) (q:at3 m h g s) (hv:∀ b,v.ownBlock=some b→(L.qv h g s).ownBlock=some b∨n≤b) (hys:∀ i b:Nat,ys[i]? = some b→∃ i':Nat,(L.ob h g s)[i']? = some b) :
    ∀ b,(L.setQ h g s v ys).S m' b→L.S m b∨n≤b:=by
  intro b hb
  have hb':(L.setQ h g s v ys).S (m.setBk h g s []) b:=S_eq (L:=L.setQ h g s v ys) (m:=m.setBk h g s []) hH hG hb
  obtain ⟨j,hj⟩:=hb'
  rcases F_setQ hj with ⟨e,_,_⟩ | ⟨_,e⟩ | ⟨i,_,e⟩
  · exact .inl ⟨j,e⟩
  · rcases hv b e with f | f
    · exact .inl ⟨.qv h g s,by simp only [PL.F,q,if_true];exact f⟩
    · exact .inr f
  · obtain ⟨i',e'⟩:=hys i b e
    exact .inl ⟨.ob h g s i',by simp only [PL.F,q,if_true];exact e'⟩

theorem MS.turn {w0:World} {L0:PL} {m0:Mt} {xb:Nat} {L:PL} {m m':Mt} {o:Od} {tv:Value} {ts:List Td} {W W':World} (S:MS w0 L0 m0 xb L m o tv ts W) {h g s:Nat} (q:at3 m h g s) (k:Kep (L.S m) W W') {v:Value} {ys:List Nat} (R':PRep W' (L.setQ h g s v ys) m') (d:m'.T=m.T∧m'.G=m.G∧m'.H=m.H)
    (hv:∀ b,v.ownBlock=some b→(L.qv h g s).ownBlock=some b∨W.heap.size≤b) (hys:∀ i b:Nat,ys[i]? = some b→∃ i':Nat,(L.ob h g s)[i']? = some b):MS w0 L0 m0 xb (L.setQ h g s v ys) m' o tv ts W':=by
  have hS:=sub_setQ (n:=W.heap.size) d.2.1 d.2.2 q hv hys
  have lW:=S.k.size
  have ltv:∀ b,tv.ownBlock=some b→b<W.heap.size:=fun b hb=>(S.tr.lt b hb).2
  refine ⟨R',fun j u hu=>(S.c j u hu).kep k S.nx,S.pl.kep k S.nx,S.lx,fun f=>?_,S.xr,S.xq,S.rl,ownsRow_kep S.tr k (fun b hb=>(S.tn b hb).2),fun b hb=>⟨(S.tn b hb).1,fun f=>?_⟩,S.ex,⟨d.1.trans S.dm.1,d.2.1.trans S.dm.2.1,d.2.2.trans S.dm.2.2⟩,S.k.trans' k (fun i hi=>?_),fun b hb=>?_⟩
  · rcases hS _ f with f | f
    · exact S.nx f
    · have:=S.lx;omega
  · rcases hS _ f with f | f
    · exact (S.tn b hb).2 f
    · have:=ltv b hb;omega
  · rcases S.sub i hi with f | f
    · exact .inl (.inl f)
    · exact .inr f
  · rcases hS _ hb with f | f
    · exact S.sub b f
    · exact .inr (by omega)

theorem MS.app {w0:World} {L0:PL} {m0:Mt} {xb:Nat} {L:PL} {m:Mt} {o:Od} {tv tv':Value} {ts ts':List Td} {W W1:World} (S:MS w0 L0 m0 xb L m o tv ts W) (hg:W.grownBy W1 tv.ownBlock) (tr:W1.ownsRow 0 67 6 tv' ts'.length (tdCells ts')) (hT1:1≤m.T) (hG1:1≤m.G)
    (hat:∀ b,tv'.ownBlock=some b→tv.ownBlock=some b∨W.heap.size≤b):MS w0 L0 m0 xb L m o tv' ts' W1:=by
  have k:Kep (fun b=>tv.ownBlock=some b) W W1:=(Kep.refl _ W).grown hg (fun b hb=>.inl hb)
  have lW:=S.k.size
  have hl:=S.R.lt hT1 hG1
  have nt:∀ b,b<w0.heap.size→tv.ownBlock≠some b:=fun b hb f=>by have:=(S.tn b f).1;omega
  refine ⟨S.R.keep k (fun b hb f=>(S.tn b f).2 hb) (nt _ S.rl.1) (nt _ S.rl.2),fun j u hu=>(S.c j u hu).kep k (nt _ S.lx),S.pl.kep k (nt _ S.lx),S.lx,S.nx,S.xr,S.xq,S.rl,tr,fun b hb=>?_,S.ex,S.dm,S.k.trans' k (fun i hi=>.inr (S.tn i hi).1),S.sub⟩
  rcases hat b hb with f | f
  · exact S.tn b f
  · exact ⟨by omega,fun q=>by have:=hl b q;omega⟩

theorem PRep.note {W:World} {L:PL} {m:Mt} (R:PRep W L m) {h g:Nat} (hh:h<m.H) (hg:g<m.G) (p n:Int) :
    PRep (((W.setCell ⟨L.gb h,g * 5+2,none⟩ (.int .i64 p)).setCell ⟨L.gb h,g * 5+3,none⟩ (.int .i64 (m.pi h g+n))).setCell ⟨L.gb h,g * 5+4,none⟩ (.int .i64 (m.am h g+p * n))) L (noteM m h g p n):=by
  have k:Kep (fun b=>b=L.gb h) W (((W.setCell ⟨L.gb h,g * 5+2,none⟩ (.int .i64 p)).setCell ⟨L.gb h,g * 5+3,none⟩ (.int .i64 (m.pi h g+n))).setCell ⟨L.gb h,g * 5+4,none⟩ (.int .i64 (m.am h g+p * n))) :=
    (((Kep.refl (fun b=>b=L.gb h) W).setCell (p:=⟨L.gb h,g * 5+2,none⟩) (.inl rfl) _).setCell (p:=⟨L.gb h,g * 5+3,none⟩) (.inl rfl) _).setCell (p:=⟨L.gb h,g * 5+4,none⟩) (.inl rfl) _
  have ne:∀ i j:Nat,i≠j→(⟨L.gb h,i,none⟩ : Addr)≠⟨L.gb h,j,none⟩:=fun i j hj q=>by injection q with _ q _;exact hj q
  have o:∀ {W:World} {i:Nat} {x:Value} (j:Nat) (y:Value),Own W ⟨L.gb h,i,none⟩ x→i≠j→Own (W.setCell ⟨L.gb h,j,none⟩ y) ⟨L.gb h,i,none⟩ x:=fun j y hx hij=>hx.set_other (ne _ _ hij) rfl rfl y
  have o3:∀ {i:Nat} {x:Value},Own W ⟨L.gb h,i,none⟩ x→i≠g * 5+2→i≠g * 5+3→i≠g * 5+4→Own (((W.setCell ⟨L.gb h,g * 5+2,none⟩ (.int .i64 p)).setCell ⟨L.gb h,g * 5+3,none⟩ (.int .i64 (m.pi h g+n))).setCell ⟨L.gb h,g * 5+4,none⟩ (.int .i64 (m.am h g+p * n))) ⟨L.gb h,i,none⟩ x :=
    fun hx h1 h2 h3=>o _ _ (o _ _ (o _ _ hx h1) h2) h3
  refine R.setGb hh k _ _ _ (fun g' s' q=>?_) (fun g' hg'=>?_) (fun g' hg'=>?_) (fun g' hg'=>?_) (fun a b hab=>⟨if_neg (fun f=>hab f.1),if_neg (fun f=>hab f.1),if_neg (fun f=>hab f.1)⟩)
  · have:=q.2.2
    exact o3 (R.sd h g' s' q) (by omega) (by omega) (by omega)
  · by_cases e:g'=g
    · subst e
      rw [if_pos ⟨rfl,rfl⟩]
      exact o _ _ (o _ _ ((R.la h g' hh hg').set rfl _) (by omega)) (by omega)
    · rw [if_neg (fun f=>e f.2)]
      exact o3 (R.la h g' hh hg') (by omega) (by omega) (by omega)
  · by_cases e:g'=g
    · subst e
      rw [if_pos ⟨rfl,rfl⟩]
      exact o _ _ ((o _ _ (R.pi h g' hh hg') (by omega)).set rfl _) (by omega)
    · rw [if_neg (fun f=>e f.2)]
      exact o3 (R.pi h g' hh hg') (by omega) (by omega) (by omega)
  · by_cases e:g'=g
    · subst e
      rw [if_pos ⟨rfl,rfl⟩]
      exact (o _ _ (o _ _ (R.am h g' hh hg') (by omega)) (by omega)).set rfl _
    · rw [if_neg (fun f=>e f.2)]
      exact o3 (R.am h g' hh hg') (by omega) (by omega) (by omega)
end

end Go.Proofs.YtcfoobhihhndjaaGreat
