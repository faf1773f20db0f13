
import Derived.Laws.FloatArith
import Derived.Test.YtcfoobhihhndjaaGreatB29
import Derived.Test.YtcfoobhihhndjaaGreatB32
import Derived.Test.YtcfoobhihhndjaaGreatB34
import Derived.Test.YtcfoobhihhndjaaGreatB35
import Derived.Test.YtcfoobhihhndjaaGreatB40
namespace Go.Proofs.YtcfoobhihhndjaaGreat

section
open Go.RowKit

theorem td_at:∀ (l:List Td) (k j:Nat) (hk:k<l.length),j<6→(tdCells l)[k * 6+j]? = l[k].cells[j]?
  | [],k,j,hk,_=>by simp at hk
  | x :: r,0,j,_,hj=>by
    simp only [tdCells,List.flatMap_cons,Nat.zero_mul,Nat.zero_add,List.getElem_cons_zero]
    rw [List.getElem?_append_left (by simp [Td.cells];omega)]
  | x :: r,k+1,j,hk,hj=>by
    have ih:=td_at r k j (by simpa using hk) hj
    simp only [tdCells,List.flatMap_cons,List.getElem_cons_succ] at ih ⊢
    rw [List.getElem?_append_right (by simp [Td.cells];omega),← ih]
    congr 1
    simp [Td.cells]
    omega
theorem td_cells {w:World} {e:TypeId} {lv:Value} {ls:List Td} (h:w.ownsRow 0 e 6 lv ls.length (tdCells ls)) (k:Nat) (hk:k<ls.length):∃ lb cap,lv = .slice (some ⟨lb,0,none⟩) ls.length cap∧∀ j v,ls[k].cells[j]? = some v→w.cell? ⟨lb,k * 6+j,none⟩=some v:=by
  rcases h.2 with ⟨_,hn⟩ | ⟨g,cap,cur,rfl,hb,hgg,rest⟩
  · omega
  · refine ⟨g,cap,rfl,fun j u hu=>?_⟩
    have hj:j<6:=by have:=(List.getElem?_eq_some_iff.1 hu).1;simpa [Td.cells] using this
    rw [h.cellAt (k * 6+j) (by omega),td_at ls k j hk hj]
    exact hu

set_option maxRecDepth 100000 in
set_option maxHeartbeats 1000000 in
theorem ltd_any (Q:World→World→Prop) (w:World) (p:Nat) (n c:Int) (ts:List Td) (v u:Value) (r1:w.ownsRow 0 67 6 v ts.length (tdCells ts)) (r2:w.ownsRow 0 67 6 u ts.length (tdCells ts)) (h60:ts.length≤61)
    (hS:∀ W,Kep non w W→Calls Tryz.prog 52 #[.pointer (some ⟨p,1,none⟩),v] W fun e w'=>e = .returned (.tuple #[])∧Q W w') :
    Calls Tryz.prog 16 #[.pointer (some ⟨p,0,none⟩),.int .i64 n,v,.int .i64 c,.int .i64 n,u,.int .i64 c] w fun e w'=>e = .returned (.bool true)∧∃ W,Kep non w W∧Q W w':=by
  obtain ⟨a1,c1,rfl⟩:=row_form r1
  obtain ⟨a2,c2,rfl⟩:=row_form r2
  have X1:=hide r1
  have X2:=hide r2
  have HS:=hide hS
  clear r1 r2 hS
  go_enter Tryz.func16,Tryz.ntmps16
  go_wp2
  go_loopw [15,16] (fun o i wr=>∃ k:Nat,k≤ts.length∧i = .int .i64 k∧o = .bool true∧∃ nd,wr=w.drewN nd) (fun _ i _=>ts.length - (intOf i).toNat)
  case atStart=>exact ⟨0,by omega,rfl,by simp,0,rfl⟩
  case round =>
    obtain ⟨k,hk,rfl,rfl,nd,rfl⟩:=hrel
    by_cases hlt:k<ts.length
    · obtain ⟨g1,d1,e1,yc⟩:=td_cells X1.out k hlt
      obtain ⟨g2,d2,e2,zc⟩:=td_cells X2.out k hlt
      simp only [Value.slice.injEq,true_and] at e1 e2
      obtain ⟨rfl,rfl⟩:=e1
      obtain ⟨rfl,rfl⟩:=e2
      have y0:w.cell? ⟨g1,k * 6,none⟩=some (.int .i64 ts[k].tk):=yc 0 _ rfl
      have y1:=yc 1 _ rfl
      have y2:=yc 2 _ rfl
      have y3:=yc 3 _ rfl
      have y4:=yc 4 _ rfl
      have y5:=yc 5 _ rfl
      have z0:w.cell? ⟨g2,k * 6,none⟩=some (.int .i64 ts[k].tk):=zc 0 _ rfl
      have z1:=zc 1 _ rfl
      have z2:=zc 2 _ rfl
      have z3:=zc 3 _ rfl
      have z4:=zc 4 _ rfl
      have z5:=zc 5 _ rfl
      clear yc zc
      generalize ts[k]=l at *
      go_wp2
      go_quiet (fail)
      go_wp2
      exact ⟨⟨k+1,by omega,by go_num,rfl,_,rfl⟩,by simp [intOf];omega⟩
    · go_wp2_with (go_at_call 52;refine (HS.out _ ((Kep.refl _ _).drewN _)).mono ?_;rintro e w3 ⟨rfl,hsp⟩)
      go_ret
      exact ⟨rfl,_,(Kep.refl _ _).drewN _,hsp⟩

theorem lv_at:∀ (l:List Lv) (k j:Nat) (hk:k<l.length),j<3→(lvCells l)[k * 3+j]? = l[k].cells[j]?
  | [],k,j,hk,_=>by simp at hk
  | x :: r,0,j,_,hj=>by
    simp only [lvCells,List.flatMap_cons,Nat.zero_mul,Nat.zero_add,List.getElem_cons_zero]
    rw [List.getElem?_append_left (by simp [Lv.cells];omega)]
  | x :: r,k+1,j,hk,hj=>by
    have ih:=lv_at r k j (by simpa using hk) hj
    simp only [lvCells,List.flatMap_cons,List.getElem_cons_succ] at ih ⊢
    rw [List.getElem?_append_right (by simp [Lv.cells];omega),← ih]
    congr 1
    simp [Lv.cells]
    omega
theorem lv_cells {w:World} {e:TypeId} {lv:Value} {ls:List Lv} (h:w.ownsRow 0 e 3 lv ls.length (lvCells ls)) (k:Nat) (hk:k<ls.length):∃ lb cap,lv = .slice (some ⟨lb,0,none⟩) ls.length cap∧∀ j v,ls[k].cells[j]? = some v→w.cell? ⟨lb,k * 3+j,none⟩=some v:=by
  rcases h.2 with ⟨_,hn⟩ | ⟨g,cap,cur,rfl,hb,hgg,rest⟩
  · omega
  · refine ⟨g,cap,rfl,fun j u hu=>?_⟩
    have hj:j<3:=by have:=(List.getElem?_eq_some_iff.1 hu).1;simpa [Lv.cells] using this
    rw [h.cellAt (k * 3+j) (by omega),lv_at ls k j hk hj]
    exact hu

set_option maxRecDepth 100000 in
set_option maxHeartbeats 1000000 in
theorem llv_any (Q:World→World→Prop) (w:World) (p:Nat) (ts:List Lv) (v u:Value) (r1:w.ownsRow 0 72 3 v ts.length (lvCells ts)) (r2:w.ownsRow 0 72 3 u ts.length (lvCells ts)) (h60:ts.length≤61)
    (hS:∀ W,Kep non w W→Calls Tryz.prog 113 #[.pointer (some ⟨p,1,none⟩),v] W fun e w'=>e = .returned (.tuple #[])∧Q W w') :
    Calls Tryz.prog 55 #[.pointer (some ⟨p,0,none⟩),v,u] w fun e w'=>e = .returned (.bool true)∧∃ W,Kep non w W∧Q W w':=by
  obtain ⟨a1,c1,rfl⟩:=row_form r1
  obtain ⟨a2,c2,rfl⟩:=row_form r2
  have X1:=hide r1
  have X2:=hide r2
  have HS:=hide hS
  clear r1 r2 hS
  go_enter Tryz.func55,Tryz.ntmps55
  go_wp2
  go_loopw [7,8] (fun o i wr=>∃ k:Nat,k≤ts.length∧i = .int .i64 k∧o = .bool true∧∃ nd,wr=w.drewN nd) (fun _ i _=>ts.length - (intOf i).toNat)
  case atStart=>exact ⟨0,by omega,rfl,by simp,0,rfl⟩
  case round =>
    obtain ⟨k,hk,rfl,rfl,nd,rfl⟩:=hrel
    by_cases hlt:k<ts.length
    · obtain ⟨g1,d1,e1,yc⟩:=lv_cells X1.out k hlt
      obtain ⟨g2,d2,e2,zc⟩:=lv_cells X2.out k hlt
      simp only [Value.slice.injEq,true_and] at e1 e2
      obtain ⟨rfl,rfl⟩:=e1
      obtain ⟨rfl,rfl⟩:=e2
      have y0:w.cell? ⟨g1,k * 3,none⟩=some (.int .i64 ts[k].p):=yc 0 _ rfl
      have y1:=yc 1 _ rfl
      have y2:=yc 2 _ rfl
      have z0:w.cell? ⟨g2,k * 3,none⟩=some (.int .i64 ts[k].p):=zc 0 _ rfl
      have z1:=zc 1 _ rfl
      have z2:=zc 2 _ rfl
      clear yc zc
      generalize ts[k]=l at *
      go_wp2
      go_quiet (fail)
      go_wp2
      exact ⟨⟨k+1,by omega,by go_num,rfl,_,rfl⟩,by simp [intOf];omega⟩
    · go_wp2_with (go_at_call 113;refine (HS.out _ ((Kep.refl _ _).drewN _)).mono ?_;rintro e w3 ⟨rfl,hsp⟩)
      go_ret
      exact ⟨rfl,_,(Kep.refl _ _).drewN _,hsp⟩
end

section
theorem cut_le (neg:Bool) (n d:Nat):Ieee.Toward.even.cut neg n d≤n+1:=by
  unfold Ieee.Toward.cut
  have h:∀ (b:Bool),b.toNat≤1:=fun b=>by cases b <;> decide
  have h2:=Nat.div_le_self n (1 <<< min d (n.log2+2))
  simp only []
  exact Nat.le_trans (Nat.add_le_add h2 (h _)) (Nat.le_refl _)

theorem near_int {n:Nat} (h0:0<n) (h1:n≤1000000000000000000):∃ r,Ieee.double.nearest false n 0=r∧4503599627370496≤r∧r<9218868437227405312:=by
  have hl:n.log2<60:=(Nat.log2_lt (by omega)).2 (by omega)
  have hle:2 ^ n.log2≤n:=Nat.log2_self_le (by omega)
  have hlt:n<2 ^ (n.log2+1):=Nat.lt_log2_self
  refine ⟨_,rfl,?_⟩
  unfold Ieee.Format.nearest
  rw [if_neg (by omega)]
  simp only [Ieee.Format.word,Ieee.double,Ieee.Format.leastPlace,Ieee.Format.binade,Ieee.Format.infRung,Bool.false_eq_true,if_false]
  have e1:max (0+(n.log2:Int) - ((52:Nat):Int)) (2 - 2 ^ (11 - 1) - ((52:Nat):Int))=(n.log2:Int) - 52:=by omega
  rw [e1]
  have c:=cut_le false (n <<< (0 - ((n.log2:Int) - 52)).toNat) (((n.log2:Int) - 52) - 0).toNat
  have c2:n <<< (0 - ((n.log2:Int) - 52)).toNat≤1000000000000000000:=by
    rw [Nat.shiftLeft_eq]
    by_cases q:n.log2≤52
    · have e:(0 - ((n.log2:Int) - 52)).toNat=52 - n.log2:=by omega
      rw [e]
      have:n * 2 ^ (52 - n.log2)≤2 ^ (n.log2+1) * 2 ^ (52 - n.log2):=Nat.mul_le_mul_right _ (by omega)
      rw [← Nat.pow_add,show n.log2+1+(52 - n.log2)=53 by omega] at this
      omega
    · have e:(0 - ((n.log2:Int) - 52)).toNat=0:=by omega
      rw [e]
      omega
  generalize Ieee.Toward.even.cut false (n <<< (0 - ((n.log2:Int) - 52)).toNat) (((n.log2:Int) - 52) - 0).toNat=k at *
  have e2:((n.log2:Int) - 52 - (2 - 2 ^ (11 - 1) - ((52:Nat):Int))).toNat=n.log2+1022:=by omega
  rw [e2]
  omega

theorem read_eq {r:Nat} (h:r<9223372036854775808):Ieee.double.read r=if r<4503599627370496 then .number false r (-1074) else if r<9218868437227405312 then .number false (4503599627370496+r % 4503599627370496) (-1074+((r / 4503599627370496 - 1:Nat):Int)) else if r=9218868437227405312 then .infinity false else .nan false (r - 9218868437227405312):=by
  have e1:Ieee.double.signWeight=9223372036854775808:=by decide
  have e2:Ieee.double.binade=4503599627370496:=by decide
  have e3:Ieee.double.infRung=9218868437227405312:=by decide
  have e4:Ieee.double.leastPlace = -1074:=by decide
  have e5:r % 9223372036854775808=r:=Nat.mod_eq_of_lt h
  have e6:(r / 9223372036854775808 % 2 == 1)=false:=by
    have:r / 9223372036854775808=0:=Nat.div_eq_of_lt h
    rw [this]
    rfl
  unfold Ieee.Format.read
  simp only [e1,e2,e3,e4,e5,e6]

theorem read_rung {r:Nat} (h0:4503599627370496≤r) (h1:r<9218868437227405312):∃ m p,Ieee.double.read r = .number false m p∧m≠0:=by
  rw [read_eq (by omega),if_neg (by omega),if_pos h1]
  exact ⟨_,_,rfl,by omega⟩

theorem read_int {n:Nat} (h1:n≤1000000000000000000):∃ m p,Ieee.double.read (Ieee.double.nearest false n 0) = .number false m p∧(0<n→m≠0):=by
  by_cases h0:0<n
  · obtain ⟨r,e,a,b⟩:=near_int h0 h1
    rw [e]
    obtain ⟨m,p,e2,hm⟩:=read_rung a b
    exact ⟨m,p,e2,fun _=>hm⟩
  · have:n=0:=by omega
    subst this
    exact ⟨0,-1074,by decide,fun h=>by omega⟩

theorem near_self (mag:Nat) (place:Int):Ieee.double.order (Ieee.double.nearest false mag place) (Ieee.double.nearest false mag place)=some .eq:=by
  have h:∃ r,Ieee.double.nearest false mag place=r∧r≤9218868437227405312:=by
    refine ⟨_,rfl,?_⟩
    unfold Ieee.Format.nearest
    simp only [Ieee.Format.word,Ieee.double,Ieee.Format.infRung,Ieee.Format.binade,Bool.false_eq_true,if_false]
    split
    · omega
    · omega
  obtain ⟨r,e,hr⟩:=h
  rw [e]
  have hn:(∃ m p,Ieee.double.read r = .number false m p)∨Ieee.double.read r = .infinity false:=by
    rw [read_eq (by omega)]
    split
    · exact .inl ⟨_,_,rfl⟩
    · split
      · exact .inl ⟨_,_,rfl⟩
      · rw [if_pos (by omega)]
        exact .inr rfl
  unfold Ieee.Format.order
  rcases hn with ⟨m,p,e3⟩ | e3
  · rw [e3]
    simp [Ieee.Datum.order]
  · rw [e3]
    rfl

theorem mean_some {a b:Int} (a0:0≤a) (a1:a≤1000000000000000000) (b0:0<b) (b1:b≤1000000000000000000):∃ f,floatBits .quo .f64 (floatOfInt .f64 a) (floatOfInt .f64 b)=some f∧Op.floatEq .f64 f f=true:=by
  have ea:floatOfInt .f64 a=Ieee.double.nearest false a.natAbs 0:=by
    show Ieee.double.write (.number (decide (a<0)) a.natAbs 0)=_
    rw [show decide (a<0)=false by simp;omega]
    rfl
  have eb:floatOfInt .f64 b=Ieee.double.nearest false b.natAbs 0:=by
    show Ieee.double.write (.number (decide (b<0)) b.natAbs 0)=_
    rw [show decide (b<0)=false by simp;omega]
    rfl
  obtain ⟨ma,pa,ra,_⟩:=read_int (n:=a.natAbs) (by omega)
  obtain ⟨mb,pb,rb,hb⟩:=read_int (n:=b.natAbs) (by omega)
  have hb':=hb (by omega)
  have h:floatBits .quo .f64 (floatOfInt .f64 a) (floatOfInt .f64 b)=Ieee.double.div (floatOfInt .f64 a) (floatOfInt .f64 b):=rfl
  rw [h,ea,eb]
  unfold Ieee.Format.div
  rw [ra,rb]
  simp only [Ieee.Datum.quotient,if_neg hb',Option.map_some]
  refine ⟨_,rfl,?_⟩
  show (Ieee.double.order _ _ == some .eq)=true
  simp only [Ieee.Format.write,Bool.xor_self,near_self]
  rfl
end

section
theorem rmetL_perm {o:Od} {a b:List Od} (h:a.Perm b):rmetL o a=rmetL o b:=by
  induction h with
  | nil=>rfl
  | cons x _ ih=>simp only [rmetL,ih]
  | swap x y l=>simp only [rmetL];omega
  | trans _ _ ih1 ih2=>rw [ih1,ih2]
theorem rmetL_none {o:Od}:∀ {l:List Od},(∀ x∈l,¬ (x.h=o.h∧x.g=o.g∧x.s≠o.s))→rmetL o l=0
  | [],_=>rfl
  | x :: r,k=>by
    have ih:=rmetL_none (o:=o) (l:=r) fun y hy=>k y (List.mem_cons_of_mem _ hy)
    have:=k x List.mem_cons_self
    simp only [rmetL,ih]
    rw [if_neg (fun f=>this ⟨f.1,f.2.1,f.2.2.1⟩)]
    omega
theorem rmetL_all {o:Od}:∀ {l:List Od},(∀ x∈l,x.h=o.h∧x.g=o.g∧x.s≠o.s)→rmetL o l=metL o l
  | [],_=>rfl
  | x :: r,k=>by
    have ih:=rmetL_all (o:=o) (l:=r) fun y hy=>k y (List.mem_cons_of_mem _ hy)
    have:=k x List.mem_cons_self
    simp only [rmetL,metL,ih]
    by_cases e:pfits o x=true
    · by_cases e2:x.t=o.t
      · simp [this,e,e2]
      · simp [this,e,e2]
    · simp [this,e]
end

section
open Go.RowKit Go.Sort

def rlots (r:Rm) (b s h g:Nat) (n:Int):Rm :=
  let r5:=r.setPc s h g (r.pc s h g - n)
  r5.setPc b h g (r5.pc b h g+n)

set_option maxRecDepth 1000000 in
set_option maxHeartbeats 16000000 in
theorem trades_mid (w:World) (B:Nat) (hB:w.heap.size=B) (L:RL) (r:Rm) (K:Int) (ok:r.Ok K) (hK:K+10≤1000) (oid os op oq ow xid xh xg xs xp xq xw:Int) (t h g tx k:Nat) (hh:h<r.H) (hg:g<r.G) (hk:k<r.wt.length) (hx:r.wt[k]? = some (⟨xid,(tx:Int),xh,xg,xs,xp,xq,xw⟩ : Od)) (n a f:Int) (n0:1≤n) (n1:n≤10000) (nq:n≤xq) (xq1:xq≤10000) (a0:0≤a) (a1:a≤100000 * 10000) (lb cap:Nat) (hv:L.wv = .slice (some ⟨lb,0,none⟩) r.wt.length cap) (bb ss:Nat) (hbb:bb<r.T) (hss:ss<r.T) (r4:Rm) (ok4:r4.Ok (K+1+1+1+1)) (d4:r4.T=r.T∧r4.G=r.G∧r4.H=r.H∧r4.wt=r.wt) (rx:Rm) (hrx:rx=rlots r4 bb ss h g n) (W4:World) (S4:RT w B L (⟨oid,(t:Int),(h:Int),(g:Int),os,op,oq,ow⟩ : Od) (⟨xid,(tx:Int),xh,xg,xs,xp,xq,xw⟩ : Od) W4 r4) {u1 u3 u5 u13 u14 u15 u16 u17 u18 u19 u20 u21 u22 u23 u24 u25 u26 u27 u28 u29 u30 u31 u32 u33 u34 u35 u36 u37 u38 u39 u40 u41 u42 u43 u44 u45 u46 u47 u48 u49 u50 u51 u52 u53 u54 u55 u56 u57 u58 u59 u60 u61 u62 u63 u64 u65 u66 u67 u68 u69 u70 u71 u72 u73 u74 u75 u76 u77 u78 u79 u80 u81 u82 u83 u84 u85 u86 u87 u88 u89 u90 u91 u92 u93 u94 u95 u96 u97 u98 u99 u100 u101 u102 u103 u104 u105 u106 u107 u108 u109 u110 u111 u112 u113 u114 u115 u116 u117 u118 u119 u120 u121 u122 u123 u124 u125 u126 u127 u128 u129 u130 u131 u132 u133 u134 u135 u136 u137 u138 u139 u140 u141 u142 u143 u144 u145 u146 u147 u148 u149 u150 u151 u152 u153 u154 u155 u156 u157 u158 u159 u160 u161 u162 u163 u164 u165 u166 u167 u168 u169 u170 u171 u172 u173 u174 u175 u176 u177 u178 u179 u180 u181 u182 u183 u184 u185 u186 u187 u188 u189 u190 u191 u192 u193 u194 u195 u196 u197 u198 u199 u200 u201 u202 u203 u204 u205 u206 u207 u208 u209 u210 u211 u212 u213 u214 u215 u216 u217 u218 u219 u220:Value} :
    Code.wp Tryz.prog (bodyTail Tryz.f51 12) (bodyPost Tryz.prog Tryz.f51 fun e w'=>e = .returned (.agg #[.int .i64 oid,.int .i64 xid,.int .i64 tx,.int .i64 xp,.int .i64 n,.int .i64 f])∧RPost w L (if xq=n then rdrop (rless (rnote rx h g xp n a) k (⟨xid,(tx:Int),xh,xg,xs,xp,xq,xw⟩ : Od) n) k else rless (rnote rx h g xp n a) k (⟨xid,(tx:Int),xh,xg,xs,xp,xq,xw⟩ : Od) n) w') ⟨#[.pointer (some ⟨L.c,0,none⟩),u1,.int .i64 k,u3,.pointer (some ⟨B,0,none⟩),u5,.pointer (some ⟨B+1,0,none⟩),.pointer (some ⟨B+1+1,0,none⟩),.int .i64 n,.int .i64 a,.int .i64 f,.int .i64 bb,.int .i64 ss,u13,u14,u15,u16,u17,u18,u19,u20,u21,u22,u23,u24,u25,u26,u27,u28,u29,u30,u31,u32,u33,u34,u35,u36,u37,u38,u39,u40,u41,u42,u43,u44,u45,u46,u47,u48,u49,u50,u51,u52,u53,u54,u55,u56,u57,u58,u59,u60,u61,u62,u63,u64,u65,u66,u67,u68,u69,u70,u71,u72,u73,u74,u75,u76,u77,u78,u79,u80,u81,u82,u83,u84,u85,u86,u87,u88,u89,u90,u91,u92,u93,u94,u95,u96,u97,u98,u99,u100,u101,u102,u103,u104,u105,u106,u107,u108,u109,u110,u111,u112,u113,u114,u115,u116,u117,u118,u119,u120,u121,u122,u123,u124,u125,u126,u127,u128,u129,u130,u131,u132,u133,u134,u135,u136,u137,u138,u139,u140,u141,u142,u143,u144,u145,u146,u147,u148,u149,u150,u151,u152,u153,u154,u155,u156,u157,u158,u159,u160,u161,u162,u163,u164,u165,u166,u167,u168,u169,u170,u171,u172,u173,u174,u175,u176,u177,u178,u179,u180,u181,u182,u183,u184,u185,u186,u187,u188,u189,u190,u191,u192,u193,u194,u195,u196,u197,u198,u199,u200,u201,u202,u203,u204,u205,u206,u207,u208,u209,u210,u211,u212,u213,u214,u215,u216,u217,u218,u219,u220],[]⟩ W4:=by
  have HB:=hide hB
  have HX:=hide hx
  have HVV:=hide hv
  have HOK:=hide ok
  have hK0:=ok.K0
  have HRX:=hide hrx
  clear hrx
  clear hB hx hv ok
  conv=>arg 2;whnf
  dsimp only
  have o2:=S4.oc 2 _ rfl
  have o3:=S4.oc 3 _ rfl
  simp only [] at o2 o3
  have HL1:=hide (fun W (k:Kep non W4 W)=>rlot_any W L r4 _ (S4.R.later k) ok4 ss h g (by rw [d4.1];exact hss) (by rw [d4.2.2.1];exact hh) (by rw [d4.2.1];exact hg))
  have HL2:=hide (fun W (k:Kep non W4 W)=>rlot_any W L r4 _ (S4.R.later k) ok4 bb h g (by rw [d4.1];exact hbb) (by rw [d4.2.2.1];exact hh) (by rw [d4.2.1];exact hg))
  rw [d4.2.2.1,d4.2.1] at HL1 HL2
  have HS4:=hide S4
  clear S4
  generalize hks:(ss * r.H+h) * r.G+g=ks at *
  generalize hkb:(bb * r.H+h) * r.G+g=kb at *
  have HKS:=hide hks
  have HKB:=hide hkb
  have lks:ks<r.T * r.G * r.H:=by rw [← hks];exact lot_lt hss hh hg
  have lkb:kb<r.T * r.G * r.H:=by rw [← hkb];exact lot_lt hbb hh hg
  clear hks hkb
  generalize hTT:r.T * r.G * r.H=TT at *
  have HTT:=hide hTT
  clear hTT
  go_wp2_with fail
  refine (HL1.out _ (Kep.refl _ _)).mono ?_
  rintro e w' ⟨rfl,nd,rfl⟩
  go_wp2_with fail
  refine (HL2.out _ ((Kep.refl _ _).drewN _)).mono ?_
  rintro e w' ⟨rfl,nd',rfl⟩
  have S4:=HS4.out.later (((Kep.refl non _).drewN nd).drewN nd')
  clear HS4 HL1 HL2 o2 o3
  revert S4
  generalize (W4.drewN nd).drewN nd'=V4
  intro S4
  have c4:=S4.R.c.cP.cell
  rw [d4.1,d4.2.1,d4.2.2.1,HTT.out] at c4
  have e1:(ss * r4.H+h) * r4.G+g=ks:=by rw [d4.2.2.1,d4.2.1];exact HKS.out
  have t1:ss<r4.T:=by rw [d4.1];exact hss
  have t2:h<r4.H:=by rw [d4.2.2.1];exact hh
  have t3:g<r4.G:=by rw [d4.2.1];exact hg
  obtain ⟨cm,cf⟩:=S4.R.pc ss h g t1 t2 t3
  rw [e1] at cm cf
  have mb:=ok4.pc ss h g t1 t2 t3
  have vw:IntKind.i64.wrap (r4.pc ss h g - n)=r4.pc ss h g - n:=by rw [IntKind.wrap_i64];omega
  have hbT:(ks:Int)<(TT:Int):=by omega
  go_upto_region 16 with fail
  go_cut [] (fun wx=>RT w B L (⟨oid,(t:Int),(h:Int),(g:Int),os,op,oq,ow⟩ : Od) (⟨xid,(tx:Int),xh,xg,xs,xp,xq,xw⟩ : Od) wx (r4.setPc ss h g (r4.pc ss h g - n)))
  · go_region
    all_goals go_step
    all_goals go_step
    all_goals go_meet
    exact S4.pcs ss h g t1 t2 t3 ks e1 _
  obtain ⟨r5,hr5⟩ : ∃ rr:Rm,rr=r4.setPc ss h g (r4.pc ss h g - n):=⟨_,rfl⟩
  have ok5:r5.Ok (K+1+1+1+1+1):=by rw [hr5];exact ok4.setPc (by omega) _ _ _ _ (by omega)
  have d5:r5.T=r.T∧r5.G=r.G∧r5.H=r.H∧r5.wt=r.wt:=by rw [hr5];exact d4
  rw [← hr5] at hcut
  have HR5:=hide hr5
  clear c4 cm cf vw mb hbT hr5 t1 t2 t3 e1 S4 ok4 d4
  have S5:=hcut
  clear hcut
  obtain ⟨W5,hwc⟩ : ∃ V,V=wc:=⟨_,rfl⟩
  subst hwc
  have c4:=S5.R.c.cP.cell
  rw [d5.1,d5.2.1,d5.2.2.1,HTT.out] at c4
  have e1:(bb * r5.H+h) * r5.G+g=kb:=by rw [d5.2.2.1,d5.2.1];exact HKB.out
  have t1:bb<r5.T:=by rw [d5.1];exact hbb
  have t2:h<r5.H:=by rw [d5.2.2.1];exact hh
  have t3:g<r5.G:=by rw [d5.2.1];exact hg
  obtain ⟨cm,cf⟩:=S5.R.pc bb h g t1 t2 t3
  rw [e1] at cm cf
  have mb:=ok5.pc bb h g t1 t2 t3
  have vw:IntKind.i64.wrap (r5.pc bb h g+n)=r5.pc bb h g+n:=by rw [IntKind.wrap_i64];omega
  have hbT:(kb:Int)<(TT:Int):=by omega
  go_upto_region 17 with fail
  go_cut [] (fun wx=>RT w B L (⟨oid,(t:Int),(h:Int),(g:Int),os,op,oq,ow⟩ : Od) (⟨xid,(tx:Int),xh,xg,xs,xp,xq,xw⟩ : Od) wx (r5.setPc bb h g (r5.pc bb h g+n)))
  · go_region
    all_goals go_step
    all_goals go_step
    all_goals go_meet
    exact S5.pcs bb h g t1 t2 t3 kb e1 _
  obtain ⟨r6,hr6⟩ : ∃ rr:Rm,rr=r5.setPc bb h g (r5.pc bb h g+n):=⟨_,rfl⟩
  have ok6:r6.Ok (K+1+1+1+1+1+1):=by rw [hr6];exact ok5.setPc (by omega) _ _ _ _ (by omega)
  have d6:r6.T=r.T∧r6.G=r.G∧r6.H=r.H∧r6.wt=r.wt:=by rw [hr6];exact d5
  rw [← hr6] at hcut
  have HR6:=hide hr6
  clear c4 cm cf vw mb hbT hr6 t1 t2 t3 e1 S5 ok5 d5
  have S6:=hcut
  clear hcut
  obtain ⟨W6,hwc⟩ : ∃ V,V=wc:=⟨_,rfl⟩
  subst hwc
  have HRF:Hid (rx=r6):=hide (by
    rw [HRX.out]
    have e5:=HR5.out
    have e6:=HR6.out
    clear S6 ok6 d6
    subst e5 e6
    rfl)
  rename_i hKK
  refine hKK _ _ ?_
  exact trades_end w B HB.out L r K HOK.out hK oid os op oq ow xid xh xg xs xp xq xw t h g tx k hh hg hk HX.out n a f n0 n1 nq xq1 a0 a1 lb cap HVV.out r6 ok6 d6 rx HRF.out W6 S6 bb ss ks kb
end

section
open Go.RowKit Go.Sort

set_option maxRecDepth 100000 in
set_option maxHeartbeats 8000000 in
theorem trades_sell (w:World) (L:RL) (r:Rm) (K:Int) (R:RRep w L r) (ok:r.Ok K) (hK:K+10≤1000) (oid op oq ow xid xh xg xs xp xq xw:Int) (t h g tx k:Nat) (ht:t<r.T) (hh:h<r.H) (hg:g<r.G) (htx:tx<r.T) (hk:k<r.wt.length) (hx:r.wt[k]? = some (⟨xid,(tx:Int),xh,xg,xs,xp,xq,xw⟩ : Od))
    (oq0:1≤oq) (oq1:oq≤10000) (xp0:1≤xp) (xp1:xp≤100000) (xq0:1≤xq) (xq1:xq≤10000) (n a f:Int) (hn:min oq xq=n) (ha:xp * n=a) (hf:r.fee h a=f) :
    Calls Tryz.prog 51 #[.pointer (some ⟨L.c,0,none⟩),.agg #[.int .i64 oid,.int .i64 t,.int .i64 h,.int .i64 g,.int .i64 1,.int .i64 op,.int .i64 oq,.int .i64 ow],.int .i64 k] w fun e w'=>e = .returned (.agg #[.int .i64 oid,.int .i64 xid,.int .i64 tx,.int .i64 xp,.int .i64 n,.int .i64 f]) ∧
      RPost w L (if xq=n then rdrop (rless (rnote (rpaid r tx t t h g n a f) h g xp n a) k (⟨xid,(tx:Int),xh,xg,xs,xp,xq,xw⟩ : Od) n) k else rless (rnote (rpaid r tx t t h g n a f) h g xp n a) k (⟨xid,(tx:Int),xh,xg,xs,xp,xq,xw⟩ : Od) n) w':=by
  have n0:1≤n:=by rw [← hn];omega
  have n1:n≤10000:=by rw [← hn];omega
  have nq:n≤xq:=by rw [← hn];omega
  have am:=mul_le' (a:=xp) (b:=n) (A:=100000) (B:=10000) (by omega) xp1 (by omega) n1
  rw [ha] at am
  obtain ⟨a0,a1⟩:=am
  have br:=ok.rt h hh
  have fm:=mul_le' (a:=a) (b:=r.rt h) (A:=1000000000) (B:=100) a0 a1 br.1 br.2
  have fb:0≤f∧f≤10000000:=by
    rw [← hf]
    unfold Rm.fee
    omega
  obtain ⟨f0,f1⟩:=fb
  obtain ⟨lb,cap,hv,hcc⟩:=ord_cells R.wt k hk
  have ek:r.wt[k]=(⟨xid,(tx:Int),xh,xg,xs,xp,xq,xw⟩ : Od):=by
    have:=List.getElem?_eq_getElem hk
    rw [this] at hx
    simpa using hx
  rw [ek] at hcc
  obtain ⟨q0,q1,q2,q3,q4,q5,q6,q7⟩:=ord_eight hcc
  simp only [] at q0 q1 q2 q3 q4 q5 q6 q7
  have c5:=R.c.cW.cell
  rw [hv] at c5
  have al:∀ {p:Addr} {v:Value},w.cell? p=some v→∀ o1 o2,((w.alloc o1).alloc o2).cell? p=some v:=fun h o1 o2=>(((Kep.refl non w).alloc o1).alloc o2).cell h (fun q=>q)
  replace c5:=al c5
  replace q0:=al q0
  replace q1:=al q1
  replace q2:=al q2
  replace q3:=al q3
  replace q4:=al q4
  replace q5:=al q5
  replace q6:=al q6
  replace q7:=al q7
  clear al
  have hk':(k:Int)<(r.wt.length:Int):=by omega
  have HLT:=hide (R.lt ok.T1 ok.G1 ok.H1)
  have HV0:Hid (RT w w.heap.size L (⟨oid,(t:Int),(h:Int),(g:Int),1,op,oq,ow⟩ : Od) (⟨xid,(tx:Int),xh,xg,xs,xp,xq,xw⟩ : Od) (((w.alloc (.cells #[.int .i64 oid,.int .i64 t,.int .i64 h,.int .i64 g,.int .i64 1,.int .i64 op,.int .i64 oq,.int .i64 ow] 40)).alloc (.cells #[.int .i64 0,.int .i64 0,.int .i64 0,.int .i64 0,.int .i64 0,.int .i64 0] 67)).alloc (.cells #[.int .i64 xid,.int .i64 tx,.int .i64 xh,.int .i64 xg,.int .i64 xs,.int .i64 xp,.int .i64 xq,.int .i64 xw] 40)) r):=hide (by
    have k0:Kep non w (((w.alloc (.cells #[.int .i64 oid,.int .i64 t,.int .i64 h,.int .i64 g,.int .i64 1,.int .i64 op,.int .i64 oq,.int .i64 ow] 40)).alloc (.cells #[.int .i64 0,.int .i64 0,.int .i64 0,.int .i64 0,.int .i64 0,.int .i64 0] 67)).alloc (.cells #[.int .i64 xid,.int .i64 tx,.int .i64 xh,.int .i64 xg,.int .i64 xs,.int .i64 xp,.int .i64 xq,.int .i64 xw] 40)):=(((Kep.refl non w).alloc _).alloc _).alloc _
    have h0:(((w.alloc (.cells #[.int .i64 oid,.int .i64 t,.int .i64 h,.int .i64 g,.int .i64 1,.int .i64 op,.int .i64 oq,.int .i64 ow] 40)).alloc (.cells #[.int .i64 0,.int .i64 0,.int .i64 0,.int .i64 0,.int .i64 0,.int .i64 0] 67)).alloc (.cells #[.int .i64 xid,.int .i64 tx,.int .i64 xh,.int .i64 xg,.int .i64 xs,.int .i64 xp,.int .i64 xq,.int .i64 xw] 40)).heap[w.heap.size]? = some (.cells #[.int .i64 oid,.int .i64 t,.int .i64 h,.int .i64 g,.int .i64 1,.int .i64 op,.int .i64 oq,.int .i64 ow] 40):=three_at0 w _ _ _
    have h1:(((w.alloc (.cells #[.int .i64 oid,.int .i64 t,.int .i64 h,.int .i64 g,.int .i64 1,.int .i64 op,.int .i64 oq,.int .i64 ow] 40)).alloc (.cells #[.int .i64 0,.int .i64 0,.int .i64 0,.int .i64 0,.int .i64 0,.int .i64 0] 67)).alloc (.cells #[.int .i64 xid,.int .i64 tx,.int .i64 xh,.int .i64 xg,.int .i64 xs,.int .i64 xp,.int .i64 xq,.int .i64 xw] 40)).heap[w.heap.size+1]? = some (.cells #[.int .i64 0,.int .i64 0,.int .i64 0,.int .i64 0,.int .i64 0,.int .i64 0] 67):=three_at1 w _ _ _
    have h2:(((w.alloc (.cells #[.int .i64 oid,.int .i64 t,.int .i64 h,.int .i64 g,.int .i64 1,.int .i64 op,.int .i64 oq,.int .i64 ow] 40)).alloc (.cells #[.int .i64 0,.int .i64 0,.int .i64 0,.int .i64 0,.int .i64 0,.int .i64 0] 67)).alloc (.cells #[.int .i64 xid,.int .i64 tx,.int .i64 xh,.int .i64 xg,.int .i64 xs,.int .i64 xp,.int .i64 xq,.int .i64 xw] 40)).heap[w.heap.size+2]? = some (.cells #[.int .i64 xid,.int .i64 tx,.int .i64 xh,.int .i64 xg,.int .i64 xs,.int .i64 xp,.int .i64 xq,.int .i64 xw] 40):=three_at2 w _ _ _
    refine ⟨R.later k0,HLT.out,fun j u hu=>?_,fun j u hu=>?_,fun j hj=>⟨?_,frozen_of_row _ _ j _ _ h1⟩,k0.none⟩
    · rw [cell_of_row _ _ j _ _ _ h0];simpa [Od.cells] using hu
    · rw [cell_of_row _ _ j _ _ _ h2];simpa [Od.cells] using hu
    · rw [cell_of_row _ _ j _ _ _ h1]
      rcases j with _ | _ | _ | _ | _ | _ | j
      all_goals first | rfl | omega)
  have HF:Hid (∀ W,RRep W L r→Calls Tryz.prog 105 #[.pointer (some ⟨L.c,0,none⟩),.int .i64 h,.int .i64 a] W fun e w'=>e = .returned (.int .i64 f)∧w'=W):=hide (fun W RW=>by rw [← hf];exact rfee_any W L r K RW ok h a hh a0 a1)
  have aw:wrap64 (xp * n)=a:=by rw [ha];exact IntWalk.wrap64_in a (by omega)
  have HN:=hide hn
  have HOK:=hide ok
  have HX:=hide hx
  have HVV:=hide hv
  have hK0:=ok.K0
  clear R ok hcc ek hf fm br hn ha hx hv
  go_enter Tryz.func51,Tryz.ntmps51
  go_wp2_with fail
  rw [HN.out,aw]
  have S0:=HV0.out
  clear HV0 q0 q1 q2 q3 q4 q5 q6 q7 c5
  revert S0
  generalize (((w.alloc (.cells #[.int .i64 oid,.int .i64 t,.int .i64 h,.int .i64 g,.int .i64 1,.int .i64 op,.int .i64 oq,.int .i64 ow] 40)).alloc (.cells #[.int .i64 0,.int .i64 0,.int .i64 0,.int .i64 0,.int .i64 0,.int .i64 0] 67)).alloc (.cells #[.int .i64 xid,.int .i64 tx,.int .i64 xh,.int .i64 xg,.int .i64 xs,.int .i64 xp,.int .i64 xq,.int .i64 xw] 40))=W0
  intro S0
  generalize hB:w.heap.size=B at *
  have HB:=hide hB
  clear hB
  refine (HF.out _ S0.R).mono ?_
  rintro e W0 ⟨rfl,rfl⟩
  clear HF
  have ok0:=HOK.out
  have o1:=S0.oc 1 _ rfl
  have o4:=S0.oc 4 _ rfl
  have x1:=S0.xc 1 _ rfl
  simp only [] at o1 o4 x1
  have c3:=S0.R.c.cM.cell
  obtain ⟨cm,cf⟩:=S0.R.mo tx htx
  have mb:=ok0.mo tx htx
  have vw:IntKind.i64.wrap (r.mo tx - a)=r.mo tx - a:=by rw [IntKind.wrap_i64];omega
  have hbT:(tx:Int)<(r.T:Int):=by omega
  go_upto_region 10 with fail
  go_cut [] (fun wx=>RT w B L (⟨oid,(t:Int),(h:Int),(g:Int),1,op,oq,ow⟩ : Od) (⟨xid,(tx:Int),xh,xg,xs,xp,xq,xw⟩ : Od) wx (r.setMo tx (r.mo tx - a)))
  · go_region
    all_goals go_step
    all_goals go_step
    all_goals go_meet
    exact S0.mo tx htx _
  obtain ⟨r1,hr1⟩ : ∃ rr:Rm,rr=r.setMo tx (r.mo tx - a):=⟨_,rfl⟩
  have ok1:r1.Ok (K+1):=by rw [hr1];exact ok0.setMo (by omega) _ _ (by omega)
  have d1:r1.T=r.T∧r1.G=r.G∧r1.H=r.H∧r1.wt=r.wt:=by rw [hr1];exact ⟨rfl,rfl,rfl,rfl⟩
  rw [← hr1] at hcut
  have HR1:=hide hr1
  clear o1 o4 x1 c3 cm cf vw mb hbT hr1 S0 ok0
  have S1:=hcut
  clear hcut
  obtain ⟨W1,hwc⟩ : ∃ V,V=wc:=⟨_,rfl⟩
  subst hwc
  have c3:=S1.R.c.cM.cell
  rw [d1.1] at c3
  have h1:t<r1.T:=by rw [d1.1];exact ht
  obtain ⟨cm,cf⟩:=S1.R.mo t h1
  have mb:=ok1.mo t h1
  have vw:IntKind.i64.wrap (r1.mo t+a)=r1.mo t+a:=by rw [IntKind.wrap_i64];omega
  have hbT:(t:Int)<(r.T:Int):=by omega
  go_upto_region 11 with fail
  go_cut [] (fun wx=>RT w B L (⟨oid,(t:Int),(h:Int),(g:Int),1,op,oq,ow⟩ : Od) (⟨xid,(tx:Int),xh,xg,xs,xp,xq,xw⟩ : Od) wx (r1.setMo t (r1.mo t+a)))
  · go_region
    all_goals go_step
    all_goals go_step
    all_goals go_meet
    exact S1.mo t h1 _
  obtain ⟨r2,hr2⟩ : ∃ rr:Rm,rr=r1.setMo t (r1.mo t+a):=⟨_,rfl⟩
  have ok2:r2.Ok (K+1+1):=by rw [hr2];exact ok1.setMo (by omega) _ _ (by omega)
  have d2:r2.T=r.T∧r2.G=r.G∧r2.H=r.H∧r2.wt=r.wt:=by rw [hr2];exact d1
  rw [← hr2] at hcut
  have HR2:=hide hr2
  clear c3 cm cf vw mb hbT hr2 h1 S1 ok1 d1
  have S2:=hcut
  clear hcut
  obtain ⟨W2,hwc⟩ : ∃ V,V=wc:=⟨_,rfl⟩
  subst hwc
  have o1:=S2.oc 1 _ rfl
  simp only [] at o1
  have c3:=S2.R.c.cM.cell
  rw [d2.1] at c3
  have h1:t<r2.T:=by rw [d2.1];exact ht
  obtain ⟨cm,cf⟩:=S2.R.mo t h1
  have mb:=ok2.mo t h1
  have vw:IntKind.i64.wrap (r2.mo t - f)=r2.mo t - f:=by rw [IntKind.wrap_i64];omega
  have hbT:(t:Int)<(r.T:Int):=by omega
  go_upto_region 12 with fail
  go_cut [] (fun wx=>RT w B L (⟨oid,(t:Int),(h:Int),(g:Int),1,op,oq,ow⟩ : Od) (⟨xid,(tx:Int),xh,xg,xs,xp,xq,xw⟩ : Od) wx (r2.setMo t (r2.mo t - f)))
  · go_region
    all_goals go_step
    all_goals go_step
    all_goals go_meet
    exact S2.mo t h1 _
  obtain ⟨r3,hr3⟩ : ∃ rr:Rm,rr=r2.setMo t (r2.mo t - f):=⟨_,rfl⟩
  have ok3:r3.Ok (K+1+1+1):=by rw [hr3];exact ok2.setMo (by omega) _ _ (by omega)
  have d3:r3.T=r.T∧r3.G=r.G∧r3.H=r.H∧r3.wt=r.wt:=by rw [hr3];exact d2
  rw [← hr3] at hcut
  have HR3:=hide hr3
  clear o1 c3 cm cf vw mb hbT hr3 h1 S2 ok2 d2
  have S3:=hcut
  clear hcut
  obtain ⟨W3,hwc⟩ : ∃ V,V=wc:=⟨_,rfl⟩
  subst hwc
  have c11:=S3.R.c.cF.cell
  have f11:=S3.R.c.cF.free
  have hb:=ok3.ho
  have vw:IntKind.i64.wrap (r3.ho+f)=r3.ho+f:=by rw [IntKind.wrap_i64];omega
  obtain ⟨r4,hr4,ok4,S4,d4⟩ : ∃ r4:Rm,r4={ r3 with ho:=r3.ho+f }∧r4.Ok (K+1+1+1+1)∧RT w B L (⟨oid,(t:Int),(h:Int),(g:Int),1,op,oq,ow⟩ : Od) (⟨xid,(tx:Int),xh,xg,xs,xp,xq,xw⟩ : Od) (W3.setCell ⟨L.c,11,none⟩ (.int .i64 (r3.ho+f))) r4∧(r4.T=r.T∧r4.G=r.G∧r4.H=r.H∧r4.wt=r.wt):=⟨_,rfl,ok3.setHo (by omega) _ (by omega),S3.ho _,d3⟩
  have HR4:=hide hr4
  have HS4:=hide S4
  clear S4 S3 hr4 hb ok3 d3
  go_upto_region 13 with fail
  go_cut [] (fun wx=>RT w B L (⟨oid,(t:Int),(h:Int),(g:Int),1,op,oq,ow⟩ : Od) (⟨xid,(tx:Int),xh,xg,xs,xp,xq,xw⟩ : Od) wx r4)
  · go_wp2
    go_meet
    exact HS4.out
  have S4:=hcut
  clear hcut HS4 c11 f11 vw
  have HRF:Hid (rpaid r tx t t h g n a f=rlots r4 tx t h g n):=hide (by
    have e1:=HR1.out
    have e2:=HR2.out
    have e3:=HR3.out
    have e4:=HR4.out
    clear S4 ok4 d4
    subst e1 e2 e3 e4
    rfl)
  rename_i hKK
  refine hKK _ _ ?_
  exact trades_mid w B HB.out L r K HOK.out hK oid 1 op oq ow xid xh xg xs xp xq xw t h g tx k hh hg hk HX.out n a f n0 n1 nq xq1 a0 a1 lb cap HVV.out tx t htx ht r4 ok4 d4 _ HRF.out wc S4
end

end Go.Proofs.YtcfoobhihhndjaaGreat
