
import Derived.Test.YtcfoobhihhndjaaGreatB33
import Derived.Test.YtcfoobhihhndjaaGreatB35
namespace Go.Proofs.YtcfoobhihhndjaaGreat

section
open Go.RowKit

theorem pair_leaf2 (W:World) (lx rx:Nat):∃ nb,Value.pointer (some ⟨W.heap.size,0,none⟩) = .pointer (some ⟨nb,0,none⟩)∧W.heap.size≤nb∧Kep non W (W.alloc (.cells #[.pointer (some ⟨lx,0,none⟩),.pointer (some ⟨rx,0,none⟩)] 48)).drew∧(W.alloc (.cells #[.pointer (some ⟨lx,0,none⟩),.pointer (some ⟨rx,0,none⟩)] 48)).drew.cell? ⟨nb,0,none⟩=some (.pointer (some ⟨lx,0,none⟩))∧(W.alloc (.cells #[.pointer (some ⟨lx,0,none⟩),.pointer (some ⟨rx,0,none⟩)] 48)).drew.cell? ⟨nb,1,none⟩=some (.pointer (some ⟨rx,0,none⟩)):=by
  obtain ⟨nb,e,k,b0,b1⟩:=pair_leaf W lx rx
  simp only [Value.pointer.injEq,Option.some.injEq,Addr.mk.injEq,and_true] at e
  subst e
  exact ⟨_,rfl,Nat.le_refl _,k,b0,b1⟩

structure OpAt (w:World) (p:Nat) (o:OpV) (lx rx:Nat):Prop where
  rv:∃ ra rn rc,o.rv = .slice ra rn rc
  at':∃ pb pc n k,w.cell? ⟨p,0,none⟩=some (.slice (some ⟨pb,0,none⟩) n pc)∧w.cell? ⟨pb,k * 2,none⟩=some (.pointer (some ⟨lx,0,none⟩))∧w.cell? ⟨pb,k * 2+1,none⟩=some (.pointer (some ⟨rx,0,none⟩))∧k<n∧∀ w:World,Calls Tryz.prog 12 #[.int .i64 o.M,.int .i64 n] w fun e w'=>e = .returned (.int .i64 k)∧w'=w

def OpCells (W:World) (zb:Nat) (o:OpV):Prop:=W.cell? ⟨zb,0,none⟩=some (.int .i64 o.kd)∧W.cell? ⟨zb,1,none⟩=some (.int .i64 o.M)∧W.cell? ⟨zb,2,none⟩=some (.int .i64 o.A)∧W.cell? ⟨zb,3,none⟩=some (.int .i64 o.B)∧W.cell? ⟨zb,4,none⟩=some (.int .i64 o.C)∧W.cell? ⟨zb,5,none⟩=some (.int .i64 o.D)∧W.cell? ⟨zb,6,none⟩=some (.int .i64 o.E)∧W.cell? ⟨zb,7,none⟩=some (o.rv)∧W.cell? ⟨zb,8,none⟩=some (.int .i64 o.od.id)∧W.cell? ⟨zb,9,none⟩=some (.int .i64 o.od.t)∧W.cell? ⟨zb,10,none⟩=some (.int .i64 o.od.h)∧W.cell? ⟨zb,11,none⟩=some (.int .i64 o.od.g)∧W.cell? ⟨zb,12,none⟩=some (.int .i64 o.od.s)∧W.cell? ⟨zb,13,none⟩=some (.int .i64 o.od.p)∧W.cell? ⟨zb,14,none⟩=some (.int .i64 o.od.q)∧W.cell? ⟨zb,15,none⟩=some (.int .i64 o.od.w)

def StepTail (w:World) (p:Nat) (Q:World→Prop) (o:OpV) (lx rx:Nat):Prop :=
  ∀ (nb zb:Nat) (W:World),w.heap.size=zb→zb≤nb→Hid (Kep non w W)→W.cell? ⟨nb,0,none⟩=some (.pointer (some ⟨lx,0,none⟩))→W.cell? ⟨nb,1,none⟩=some (.pointer (some ⟨rx,0,none⟩))→OpCells W zb o →
    ∀ u20 u21 u22 u23 u24 u25 u26 u27 u28 u29 u30 u31 u32 u33 u34 u35 u36 u37 u38 u39 u40 u41 u42 u43 u44 u45 u46 u49 u50 u51 u52 u53 u54 u55 u56 u57 u59 u60 u61 u62 u63 u64 u66 u67 u68 u69 u70 u71 u72 u73 u74 u75 u76 u77 u78 u79 u80 u81 u82 u83 u84 u85 u86 u87 u88 u89 u90 u91 u92 u94 u95 u96 u97 u98 u99 u100 u102 u103 u104 u105 u106 u107 u108 u109 u110 u111 u112 u113 u114 u115 u116 u117 u118 u119 u121 u122 u123 u124 u125 u126 u127 u128 u129 u130 u131 u132 u133 u134 u135 u136 u137 u138 u139 u140 u141 u142 u143 u144 u145 u146 u147 u148 u149 u150 u151 u152 u153 u154 u155 u156 u157 u158 u159:Value,Code.wp Tryz.prog (bodyTail Tryz.f8 4) (bodyPost Tryz.prog Tryz.f8 fun e w'=>e = .returned (.bool true)∧Q w') ⟨#[.pointer (some ⟨p,0,none⟩),.agg o.cells,undef,.pointer (some ⟨zb,0,none⟩),.bool false,.pointer (some ⟨nb,0,none⟩),undef,undef,undef,undef,undef,undef,undef,undef,undef,undef,undef,undef,undef,undef,u20,u21,u22,u23,u24,u25,u26,u27,u28,u29,u30,u31,u32,u33,u34,u35,u36,u37,u38,u39,u40,u41,u42,u43,u44,u45,u46,undef,undef,u49,u50,u51,u52,u53,u54,u55,u56,u57,undef,u59,u60,u61,u62,u63,u64,undef,u66,u67,u68,u69,u70,u71,u72,u73,u74,u75,u76,u77,u78,u79,u80,u81,u82,u83,u84,u85,u86,u87,u88,u89,u90,u91,u92,undef,u94,u95,u96,u97,u98,u99,u100,undef,u102,u103,u104,u105,u106,u107,u108,u109,u110,u111,u112,u113,u114,u115,u116,u117,u118,u119,undef,u121,u122,u123,u124,u125,u126,u127,u128,u129,u130,u131,u132,u133,u134,u135,u136,u137,u138,u139,u140,u141,u142,u143,u144,u145,u146,u147,u148,u149,u150,u151,u152,u153,u154,u155,u156,u157,u158,u159],[]⟩ W

set_option maxRecDepth 100000 in
set_option maxHeartbeats 2000000 in
theorem step_pre (w:World) (p:Nat) (Q:World→Prop) (o:OpV) (lx rx:Nat) (h:OpAt w p o lx rx) (h1:o.kd≠1) (HT:StepTail w p Q o lx rx) :
    Calls Tryz.prog 8 #[.pointer (some ⟨p,0,none⟩),.agg o.cells] w fun e w'=>e = .returned (.bool true)∧Q w':=by
  obtain ⟨⟨ra,rn,rc,hrv⟩,pb,pc,n,k,c0,x0,x1,hkn,hpk⟩:=h
  have HPK:=hide hpk
  have HTT:=hide HT
  clear hpk HT
  obtain ⟨kd,M,A,B,C,D,E,rv,o0,o1,o2,o3,o4,o5,o6,o7⟩:=o
  simp only [] at h1 hrv HPK
  subst hrv
  have hk1:(kd == 1)=false:=beq_eq_false_iff_ne.2 h1
  clear h1
  simp only [OpV.cells]
  have zh:=heap_alloc_new w (.cells #[.int .i64 kd,.int .i64 M,.int .i64 A,.int .i64 B,.int .i64 C,.int .i64 D,.int .i64 E,.slice ra rn rc,.int .i64 o0,.int .i64 o1,.int .i64 o2,.int .i64 o3,.int .i64 o4,.int .i64 o5,.int .i64 o6,.int .i64 o7] 42)
  obtain ⟨W0,hW0⟩ : ∃ W0,W0=w.alloc (.cells #[.int .i64 kd,.int .i64 M,.int .i64 A,.int .i64 B,.int .i64 C,.int .i64 D,.int .i64 E,.slice ra rn rc,.int .i64 o0,.int .i64 o1,.int .i64 o2,.int .i64 o3,.int .i64 o4,.int .i64 o5,.int .i64 o6,.int .i64 o7] 42):=⟨_,rfl⟩
  have y0:W0.cell? ⟨p,0,none⟩=some (.slice (some ⟨pb,0,none⟩) n pc):=by rw [hW0];exact cell_al c0
  have y1:W0.cell? ⟨pb,k * 2,none⟩=some (.pointer (some ⟨lx,0,none⟩)):=by rw [hW0];exact cell_al x0
  have y2:W0.cell? ⟨pb,k * 2+1,none⟩=some (.pointer (some ⟨rx,0,none⟩)):=by rw [hW0];exact cell_al x1
  rw [← hW0] at zh
  have z1:W0.cell? ⟨w.heap.size,1,none⟩=some (.int .i64 M):=cell_of_row _ _ 1 _ _ _ zh
  have KW:Hid (Kep non w W0):=hide (by rw [hW0];exact (Kep.refl _ _).alloc _)
  have lzb:w.heap.size<W0.heap.size:=(Array.getElem?_eq_some_iff.1 zh).1
  have ZH:=hide zh
  have yy:(w.alloc (.cells #[.int .i64 kd,.int .i64 M,.int .i64 A,.int .i64 B,.int .i64 C,.int .i64 D,.int .i64 E,.slice ra rn rc,.int .i64 o0,.int .i64 o1,.int .i64 o2,.int .i64 o3,.int .i64 o4,.int .i64 o5,.int .i64 o6,.int .i64 o7] 42)).cell? ⟨p,0,none⟩=some (.slice (some ⟨pb,0,none⟩) n pc):=cell_al c0
  have hkn':(k:Int)<(n:Int):=by omega
  have hkn0:(0:Int)≤(k:Int):=Int.natCast_nonneg _
  have hs0:((n:Int) == 0)=false:=beq_eq_false_iff_ne.2 (by omega)
  have HW0:=hide hW0
  clear x0 x1 c0 zh hW0
  go_enter Tryz.func8,Tryz.ntmps8
  go_upto_region 5 with fail
  rw [← HW0.out]
  clear HW0 yy
  generalize hzbe:w.heap.size=zb at *
  have HZB:=hide hzbe
  clear hzbe
  have HS:Hid (∀ w',Kep non W0 w'→(w'.cell? ⟨p,0,none⟩=some (.slice (some ⟨pb,0,none⟩) n pc)∧w'.cell? ⟨zb,1,none⟩=some (.int .i64 M)∧w'.cell? ⟨pb,k * 2,none⟩=some (.pointer (some ⟨lx,0,none⟩))∧w'.cell? ⟨pb,k * 2+1,none⟩=some (.pointer (some ⟨rx,0,none⟩)))) :=
    hide fun w' h=>⟨h.cell y0 (fun q=>q),h.cell z1 (fun q=>q),h.cell y1 (fun q=>q),h.cell y2 (fun q=>q)⟩
  go_cut [5] (fun s5 wx=>∃ nb,s5 = .pointer (some ⟨nb,0,none⟩)∧W0.heap.size≤nb∧Kep non W0 wx∧wx.cell? ⟨nb,0,none⟩=some (.pointer (some ⟨lx,0,none⟩))∧wx.cell? ⟨nb,1,none⟩=some (.pointer (some ⟨rx,0,none⟩)))
  case first =>
    go_region_held3 (fun w'=>w'.cell? ⟨p,0,none⟩=some (.slice (some ⟨pb,0,none⟩) n pc)∧w'.cell? ⟨zb,1,none⟩=some (.int .i64 M)∧w'.cell? ⟨pb,k * 2,none⟩=some (.pointer (some ⟨lx,0,none⟩))∧w'.cell? ⟨pb,k * 2+1,none⟩=some (.pointer (some ⟨rx,0,none⟩)))
      ((refine HS.out _ ?_;(repeat (first | apply Kep.drew | apply Kep.alloc));exact Kep.refl _ _))
      ((go_at_call 12;refine (HPK.out _).mono ?_;rintro e W ⟨rfl,rfl⟩))
    all_goals go_step
    all_goals go_step
    all_goals go_meet
    all_goals exact pair_leaf2 W0 lx rx
  case rest =>
    obtain ⟨nb,rfl,nbl,KX,b0,b1⟩:=hcut
    rename_i hKK
    refine hKK _ _ ?_
    refine HTT.out nb zb wc HZB.out (by omega) (hide (KW.out.trans KX)) b0 b1 ?_ _ _ _ _ _ _ _ _ _ _ _ _ _ _ _ _ _ _ _ _ _ _ _ _ _ _ _ _ _ _ _ _ _ _ _ _ _ _ _ _ _ _ _ _ _ _ _ _ _ _ _ _ _ _ _ _ _ _ _ _ _ _ _ _ _ _ _ _ _ _ _ _ _ _ _ _ _ _ _ _ _ _ _ _ _ _ _ _ _ _ _ _ _ _ _ _ _ _ _ _ _ _ _ _ _ _ _ _ _ _ _ _ _ _ _ _ _ _ _ _ _ _ _ _ _ _ _ _ _ _ _ _ _
    have z:=(KX.block zb (by omega) (fun q=>q)).trans ZH.out
    exact ⟨cell_of_row _ _ 0 _ _ _ z,cell_of_row _ _ 1 _ _ _ z,cell_of_row _ _ 2 _ _ _ z,cell_of_row _ _ 3 _ _ _ z,cell_of_row _ _ 4 _ _ _ z,cell_of_row _ _ 5 _ _ _ z,cell_of_row _ _ 6 _ _ _ z,cell_of_row _ _ 7 _ _ _ z,cell_of_row _ _ 8 _ _ _ z,cell_of_row _ _ 9 _ _ _ z,cell_of_row _ _ 10 _ _ _ z,cell_of_row _ _ 11 _ _ _ z,cell_of_row _ _ 12 _ _ _ z,cell_of_row _ _ 13 _ _ _ z,cell_of_row _ _ 14 _ _ _ z,cell_of_row _ _ 15 _ _ _ z⟩

set_option maxRecDepth 100000 in
set_option maxHeartbeats 2000000 in
theorem step_kind0 (w:World) (p:Nat) (Q:World→Prop) (o:OpV) (lx rx:Nat) (h:OpAt w p o lx rx) (hk:o.kd≤0) (HB:Hid (∀ W,Kep non w W→Q W)) :
    Calls Tryz.prog 8 #[.pointer (some ⟨p,0,none⟩),.agg o.cells] w fun e w'=>e = .returned (.bool true)∧Q w':=by
  obtain ⟨ra,rn,rc,hrv⟩:=h.rv
  refine step_pre w p Q o lx rx h (by omega) ?_
  intro nb zb W hz hnb HKX b0 b1 HZ
  intros
  obtain ⟨kd,M,A,B,C,D,E,rv,o0,o1,o2,o3,o4,o5,o6,o7⟩:=o
  simp only [] at hk hrv HB
  subst hrv
  obtain ⟨q0,q1,q2,q3,q4,q5,q6,q7,q8,q9,q10,q11,q12,q13,q14,q15⟩:=HZ
  simp only [] at q0 q1 q2 q3 q4 q5 q6 q7 q8 q9 q10 q11 q12 q13 q14 q15
  clear h
  simp only [OpV.cells]
  conv=>arg 2;whnf
  have k2:(kd == 2)=false:=beq_eq_false_iff_ne.2 (by omega)
  have k3:(kd == 3)=false:=beq_eq_false_iff_ne.2 (by omega)
  have k4:(kd == 4)=false:=beq_eq_false_iff_ne.2 (by omega)
  have k5:(kd == 5)=false:=beq_eq_false_iff_ne.2 (by omega)
  have k6:(kd == 6)=false:=beq_eq_false_iff_ne.2 (by omega)
  have k7:(kd == 7)=false:=beq_eq_false_iff_ne.2 (by omega)
  have k8:(kd == 8)=false:=beq_eq_false_iff_ne.2 (by omega)
  have k9:(kd == 9)=false:=beq_eq_false_iff_ne.2 (by omega)
  have k10:(kd == 10)=false:=beq_eq_false_iff_ne.2 (by omega)
  have k11:(kd == 11)=false:=beq_eq_false_iff_ne.2 (by omega)
  have k12:(kd == 12)=false:=beq_eq_false_iff_ne.2 (by omega)
  have k13:(kd == 13)=false:=beq_eq_false_iff_ne.2 (by omega)
  have k14:(kd == 14)=false:=beq_eq_false_iff_ne.2 (by omega)
  clear hk
  go_wp2_with fail
  go_ret
  exact ⟨rfl,HB.out _ HKX.out⟩

set_option maxRecDepth 100000 in
set_option maxHeartbeats 2000000 in
theorem step_kind2 (w:World) (p:Nat) (Q:World→Prop) (o:OpV) (lx rx:Nat) (h:OpAt w p o lx rx) (hk:o.kd=2) (HB:Hid (∀ W,Kep non w W→Calls Tryz.prog 13 #[.agg #[.pointer (some ⟨lx,0,none⟩),.pointer (some ⟨rx,0,none⟩)],.agg o.cells] W fun e w'=>e = .returned (.bool true)∧Q w')) :
    Calls Tryz.prog 8 #[.pointer (some ⟨p,0,none⟩),.agg o.cells] w fun e w'=>e = .returned (.bool true)∧Q w':=by
  obtain ⟨ra,rn,rc,hrv⟩:=h.rv
  refine step_pre w p Q o lx rx h (by omega) ?_
  intro nb zb W hz hnb HKX b0 b1 HZ
  intros
  obtain ⟨kd,M,A,B,C,D,E,rv,o0,o1,o2,o3,o4,o5,o6,o7⟩:=o
  simp only [] at hk hrv HB
  subst hrv
  obtain ⟨q0,q1,q2,q3,q4,q5,q6,q7,q8,q9,q10,q11,q12,q13,q14,q15⟩:=HZ
  simp only [] at q0 q1 q2 q3 q4 q5 q6 q7 q8 q9 q10 q11 q12 q13 q14 q15
  clear h
  simp only [OpV.cells] at HB ⊢
  conv=>arg 2;whnf
  subst hk
  go_wp2_with ((go_at_call 13;refine (HB.out _ HKX.out).mono ?_;rintro e W' ⟨rfl,hP⟩))
  go_ret
  exact ⟨rfl,hP⟩

set_option maxRecDepth 100000 in
set_option maxHeartbeats 2000000 in
theorem step_kind3 (w:World) (p:Nat) (Q:World→Prop) (o:OpV) (lx rx:Nat) (h:OpAt w p o lx rx) (hk:o.kd=3) (HB:Hid (∀ W,Kep non w W→Calls Tryz.prog 13 #[.agg #[.pointer (some ⟨lx,0,none⟩),.pointer (some ⟨rx,0,none⟩)],.agg o.cells] W fun e w'=>e = .returned (.bool true)∧Q w')) :
    Calls Tryz.prog 8 #[.pointer (some ⟨p,0,none⟩),.agg o.cells] w fun e w'=>e = .returned (.bool true)∧Q w':=by
  obtain ⟨ra,rn,rc,hrv⟩:=h.rv
  refine step_pre w p Q o lx rx h (by omega) ?_
  intro nb zb W hz hnb HKX b0 b1 HZ
  intros
  obtain ⟨kd,M,A,B,C,D,E,rv,o0,o1,o2,o3,o4,o5,o6,o7⟩:=o
  simp only [] at hk hrv HB
  subst hrv
  obtain ⟨q0,q1,q2,q3,q4,q5,q6,q7,q8,q9,q10,q11,q12,q13,q14,q15⟩:=HZ
  simp only [] at q0 q1 q2 q3 q4 q5 q6 q7 q8 q9 q10 q11 q12 q13 q14 q15
  clear h
  simp only [OpV.cells] at HB ⊢
  conv=>arg 2;whnf
  subst hk
  go_wp2_with ((go_at_call 13;refine (HB.out _ HKX.out).mono ?_;rintro e W' ⟨rfl,hP⟩))
  go_ret
  exact ⟨rfl,hP⟩

set_option maxRecDepth 100000 in
set_option maxHeartbeats 2000000 in
theorem step_kind4 (w:World) (p:Nat) (Q:World→Prop) (o:OpV) (lx rx:Nat) (h:OpAt w p o lx rx) (hk:o.kd=4) (HB:Hid (∀ W,Kep non w W→Calls Tryz.prog 13 #[.agg #[.pointer (some ⟨lx,0,none⟩),.pointer (some ⟨rx,0,none⟩)],.agg o.cells] W fun e w'=>e = .returned (.bool true)∧Q w')) :
    Calls Tryz.prog 8 #[.pointer (some ⟨p,0,none⟩),.agg o.cells] w fun e w'=>e = .returned (.bool true)∧Q w':=by
  obtain ⟨ra,rn,rc,hrv⟩:=h.rv
  refine step_pre w p Q o lx rx h (by omega) ?_
  intro nb zb W hz hnb HKX b0 b1 HZ
  intros
  obtain ⟨kd,M,A,B,C,D,E,rv,o0,o1,o2,o3,o4,o5,o6,o7⟩:=o
  simp only [] at hk hrv HB
  subst hrv
  obtain ⟨q0,q1,q2,q3,q4,q5,q6,q7,q8,q9,q10,q11,q12,q13,q14,q15⟩:=HZ
  simp only [] at q0 q1 q2 q3 q4 q5 q6 q7 q8 q9 q10 q11 q12 q13 q14 q15
  clear h
  simp only [OpV.cells] at HB ⊢
  conv=>arg 2;whnf
  subst hk
  go_wp2_with ((go_at_call 13;refine (HB.out _ HKX.out).mono ?_;rintro e W' ⟨rfl,hP⟩))
  go_ret
  exact ⟨rfl,hP⟩

set_option maxRecDepth 100000 in
set_option maxHeartbeats 2000000 in
theorem step_kind5 (w:World) (p:Nat) (Q:World→Prop) (o:OpV) (lx rx:Nat) (h:OpAt w p o lx rx) (hk:o.kd=5) (HB:Hid (∀ W,Kep non w W→Calls Tryz.prog 13 #[.agg #[.pointer (some ⟨lx,0,none⟩),.pointer (some ⟨rx,0,none⟩)],.agg o.cells] W fun e w'=>e = .returned (.bool true)∧Q w')) :
    Calls Tryz.prog 8 #[.pointer (some ⟨p,0,none⟩),.agg o.cells] w fun e w'=>e = .returned (.bool true)∧Q w':=by
  obtain ⟨ra,rn,rc,hrv⟩:=h.rv
  refine step_pre w p Q o lx rx h (by omega) ?_
  intro nb zb W hz hnb HKX b0 b1 HZ
  intros
  obtain ⟨kd,M,A,B,C,D,E,rv,o0,o1,o2,o3,o4,o5,o6,o7⟩:=o
  simp only [] at hk hrv HB
  subst hrv
  obtain ⟨q0,q1,q2,q3,q4,q5,q6,q7,q8,q9,q10,q11,q12,q13,q14,q15⟩:=HZ
  simp only [] at q0 q1 q2 q3 q4 q5 q6 q7 q8 q9 q10 q11 q12 q13 q14 q15
  clear h
  simp only [OpV.cells] at HB ⊢
  conv=>arg 2;whnf
  subst hk
  go_wp2_with ((go_at_call 13;refine (HB.out _ HKX.out).mono ?_;rintro e W' ⟨rfl,hP⟩))
  go_ret
  exact ⟨rfl,hP⟩

set_option maxRecDepth 100000 in
set_option maxHeartbeats 2000000 in
theorem step_kind7 (w:World) (p:Nat) (Q:World→Prop) (o:OpV) (lx rx:Nat) (h:OpAt w p o lx rx) (hk:o.kd=7) (HB:Hid (∀ W,Kep non w W→Calls Tryz.prog 13 #[.agg #[.pointer (some ⟨lx,0,none⟩),.pointer (some ⟨rx,0,none⟩)],.agg o.cells] W fun e w'=>e = .returned (.bool true)∧Q w')) :
    Calls Tryz.prog 8 #[.pointer (some ⟨p,0,none⟩),.agg o.cells] w fun e w'=>e = .returned (.bool true)∧Q w':=by
  obtain ⟨ra,rn,rc,hrv⟩:=h.rv
  refine step_pre w p Q o lx rx h (by omega) ?_
  intro nb zb W hz hnb HKX b0 b1 HZ
  intros
  obtain ⟨kd,M,A,B,C,D,E,rv,o0,o1,o2,o3,o4,o5,o6,o7⟩:=o
  simp only [] at hk hrv HB
  subst hrv
  obtain ⟨q0,q1,q2,q3,q4,q5,q6,q7,q8,q9,q10,q11,q12,q13,q14,q15⟩:=HZ
  simp only [] at q0 q1 q2 q3 q4 q5 q6 q7 q8 q9 q10 q11 q12 q13 q14 q15
  clear h
  simp only [OpV.cells] at HB ⊢
  conv=>arg 2;whnf
  subst hk
  go_wp2_with ((go_at_call 13;refine (HB.out _ HKX.out).mono ?_;rintro e W' ⟨rfl,hP⟩))
  go_ret
  exact ⟨rfl,hP⟩

set_option maxRecDepth 100000 in
set_option maxHeartbeats 2000000 in
theorem step_kind8 (w:World) (p:Nat) (Q:World→Prop) (o:OpV) (lx rx:Nat) (h:OpAt w p o lx rx) (hk:o.kd=8) (HB:Hid (∀ W,Kep non w W→Calls Tryz.prog 13 #[.agg #[.pointer (some ⟨lx,0,none⟩),.pointer (some ⟨rx,0,none⟩)],.agg o.cells] W fun e w'=>e = .returned (.bool true)∧Q w')) :
    Calls Tryz.prog 8 #[.pointer (some ⟨p,0,none⟩),.agg o.cells] w fun e w'=>e = .returned (.bool true)∧Q w':=by
  obtain ⟨ra,rn,rc,hrv⟩:=h.rv
  refine step_pre w p Q o lx rx h (by omega) ?_
  intro nb zb W hz hnb HKX b0 b1 HZ
  intros
  obtain ⟨kd,M,A,B,C,D,E,rv,o0,o1,o2,o3,o4,o5,o6,o7⟩:=o
  simp only [] at hk hrv HB
  subst hrv
  obtain ⟨q0,q1,q2,q3,q4,q5,q6,q7,q8,q9,q10,q11,q12,q13,q14,q15⟩:=HZ
  simp only [] at q0 q1 q2 q3 q4 q5 q6 q7 q8 q9 q10 q11 q12 q13 q14 q15
  clear h
  simp only [OpV.cells] at HB ⊢
  conv=>arg 2;whnf
  subst hk
  go_wp2_with ((go_at_call 13;refine (HB.out _ HKX.out).mono ?_;rintro e W' ⟨rfl,hP⟩))
  go_ret
  exact ⟨rfl,hP⟩

set_option maxRecDepth 100000 in
set_option maxHeartbeats 2000000 in
theorem step_kind6 (w:World) (p:Nat) (Q:World→Prop) (o:OpV) (lx rx:Nat) (h:OpAt w p o lx rx) (hk:o.kd=6) (HB:Hid (∀ W,Kep non w W→Calls Tryz.prog 10 #[.pointer (some ⟨p,0,none⟩),.agg #[.pointer (some ⟨lx,0,none⟩),.pointer (some ⟨rx,0,none⟩)],.int .i64 o.A] W fun e w'=>e = .returned (.bool true)∧Q w')) :
    Calls Tryz.prog 8 #[.pointer (some ⟨p,0,none⟩),.agg o.cells] w fun e w'=>e = .returned (.bool true)∧Q w':=by
  obtain ⟨ra,rn,rc,hrv⟩:=h.rv
  refine step_pre w p Q o lx rx h (by omega) ?_
  intro nb zb W hz hnb HKX b0 b1 HZ
  intros
  obtain ⟨kd,M,A,B,C,D,E,rv,o0,o1,o2,o3,o4,o5,o6,o7⟩:=o
  simp only [] at hk hrv HB
  subst hrv
  obtain ⟨q0,q1,q2,q3,q4,q5,q6,q7,q8,q9,q10,q11,q12,q13,q14,q15⟩:=HZ
  simp only [] at q0 q1 q2 q3 q4 q5 q6 q7 q8 q9 q10 q11 q12 q13 q14 q15
  clear h
  simp only [OpV.cells]
  conv=>arg 2;whnf
  subst hk
  go_wp2_with ((go_at_call 10;refine (HB.out _ HKX.out).mono ?_;rintro e W' ⟨rfl,hP⟩))
  go_ret
  exact ⟨rfl,hP⟩
end

end Go.Proofs.YtcfoobhihhndjaaGreat
