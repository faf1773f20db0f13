
import Derived.BigQuiet
import Derived.Carry
import Derived.OpenShut
import Derived.OrdersIn
import Derived.RangeFuncCalls
import Derived.StillTailTactics
import Derived.Test.YtcfoobhihhndjaaGreatB29
import Derived.Test.YtcfoobhihhndjaaGreatB36
namespace Go.Proofs.YtcfoobhihhndjaaGreat

section
open Go.RowKit

set_option maxRecDepth 100000 in
set_option maxHeartbeats 2000000 in
theorem step_kind9 (w:World) (p:Nat) (Q:World→Prop) (o:OpV) (lx rx:Nat) (h:OpAt w p o lx rx) (hk:o.kd=9) (HB:Hid (∀ W,Kep non w W→Calls Tryz.prog 14 #[.pointer (some ⟨lx,0,none⟩),.agg #[.int .i64 o.od.id,.int .i64 o.od.t,.int .i64 o.od.h,.int .i64 o.od.g,.int .i64 o.od.s,.int .i64 o.od.p,.int .i64 o.od.q,.int .i64 o.od.w]] W fun e w1=>∃ n v c,e = .returned (.tuple #[.int .i64 n,v,.int .i64 c])∧Kep (fun b=>b<w.heap.size) W w1∧Calls Tryz.prog 15 #[.pointer (some ⟨rx,0,none⟩),.agg #[.int .i64 o.od.id,.int .i64 o.od.t,.int .i64 o.od.h,.int .i64 o.od.g,.int .i64 o.od.s,.int .i64 o.od.p,.int .i64 o.od.q,.int .i64 o.od.w]] w1 fun e w2=>∃ u,e = .returned (.tuple #[.int .i64 n,u,.int .i64 c])∧Calls Tryz.prog 16 #[.pointer (some ⟨p,0,none⟩),.int .i64 n,v,.int .i64 c,.int .i64 n,u,.int .i64 c] w2 fun e w3=>e = .returned (.bool true)∧Q w3)) :
    Calls Tryz.prog 8 #[.pointer (some ⟨p,0,none⟩),.agg o.cells] w fun e w'=>e = .returned (.bool true)∧Q w':=by
  obtain ⟨ra,rn,rc,hrv⟩:=h.rv
  refine step_pre w p Q o lx rx h (by omega) ?_
  intro nb zb W hz hnb HKX b0 b1 HZ
  intros
  obtain ⟨kd,M,A,B,C,D,E,rv,o0,o1,o2,o3,o4,o5,o6,o7⟩:=o
  simp only [] at hk hrv HB
  subst hrv
  obtain ⟨q0,q1,q2,q3,q4,q5,q6,q7,q8,q9,q10,q11,q12,q13,q14,q15⟩:=HZ
  simp only [] at q0 q1 q2 q3 q4 q5 q6 q7 q8 q9 q10 q11 q12 q13 q14 q15
  clear h
  simp only [OpV.cells]
  conv=>arg 2;whnf
  subst hk
  go_wp2_with fail
  refine (HB.out _ HKX.out).mono ?_
  rintro e w1 ⟨n1,v1,c1,rfl,k1,HC0⟩
  have HC:=hide HC0
  clear HC0 HB
  subst hz
  replace b1:=k1.cell b1 (fun q=>by simp only [] at q;omega)
  replace q8:=k1.cell q8 (fun q=>by simp only [] at q;omega)
  replace q9:=k1.cell q9 (fun q=>by simp only [] at q;omega)
  replace q10:=k1.cell q10 (fun q=>by simp only [] at q;omega)
  replace q11:=k1.cell q11 (fun q=>by simp only [] at q;omega)
  replace q12:=k1.cell q12 (fun q=>by simp only [] at q;omega)
  replace q13:=k1.cell q13 (fun q=>by simp only [] at q;omega)
  replace q14:=k1.cell q14 (fun q=>by simp only [] at q;omega)
  replace q15:=k1.cell q15 (fun q=>by simp only [] at q;omega)
  clear b0 k1
  go_wp2_with fail
  refine HC.out.mono ?_
  rintro e w2 ⟨u1,rfl,HD0⟩
  have HD:=hide HD0
  clear HD0 HC
  go_wp2_with fail
  refine HD.out.mono ?_
  rintro e w3 ⟨rfl,hQ⟩
  go_wp2
  go_ret
  exact ⟨rfl,hQ⟩

set_option maxRecDepth 100000 in
set_option maxHeartbeats 2000000 in
theorem step_kind14 (w:World) (p:Nat) (Q:World→Prop) (o:OpV) (lx rx:Nat) (h:OpAt w p o lx rx) (hk:o.kd=14) (HB:Hid (∀ W,Kep non w W→Calls Tryz.prog 20 #[.pointer (some ⟨lx,0,none⟩),.int .i64 o.A,.int .i64 o.B,.int .i64 o.C,.int .i64 o.D] W fun e w1=>∃ n v c,e = .returned (.tuple #[.int .i64 n,v,.int .i64 c])∧Kep (fun b=>b<w.heap.size) W w1∧Calls Tryz.prog 21 #[.pointer (some ⟨rx,0,none⟩),.int .i64 o.A,.int .i64 o.B,.int .i64 o.C,.int .i64 o.D] w1 fun e w2=>∃ u,e = .returned (.tuple #[.int .i64 n,u,.int .i64 c])∧Calls Tryz.prog 16 #[.pointer (some ⟨p,0,none⟩),.int .i64 n,v,.int .i64 c,.int .i64 n,u,.int .i64 c] w2 fun e w3=>e = .returned (.bool true)∧Q w3)) :
    Calls Tryz.prog 8 #[.pointer (some ⟨p,0,none⟩),.agg o.cells] w fun e w'=>e = .returned (.bool true)∧Q w':=by
  obtain ⟨ra,rn,rc,hrv⟩:=h.rv
  refine step_pre w p Q o lx rx h (by omega) ?_
  intro nb zb W hz hnb HKX b0 b1 HZ
  intros
  obtain ⟨kd,M,A,B,C,D,E,rv,o0,o1,o2,o3,o4,o5,o6,o7⟩:=o
  simp only [] at hk hrv HB
  subst hrv
  obtain ⟨q0,q1,q2,q3,q4,q5,q6,q7,q8,q9,q10,q11,q12,q13,q14,q15⟩:=HZ
  simp only [] at q0 q1 q2 q3 q4 q5 q6 q7 q8 q9 q10 q11 q12 q13 q14 q15
  clear h
  simp only [OpV.cells]
  conv=>arg 2;whnf
  subst hk
  go_wp2_with fail
  refine (HB.out _ HKX.out).mono ?_
  rintro e w1 ⟨n1,v1,c1,rfl,k1,HC0⟩
  have HC:=hide HC0
  clear HC0 HB
  subst hz
  replace b1:=k1.cell b1 (fun q=>by simp only [] at q;omega)
  replace q2:=k1.cell q2 (fun q=>by simp only [] at q;omega)
  replace q3:=k1.cell q3 (fun q=>by simp only [] at q;omega)
  replace q4:=k1.cell q4 (fun q=>by simp only [] at q;omega)
  replace q5:=k1.cell q5 (fun q=>by simp only [] at q;omega)
  clear b0 k1
  go_wp2_with fail
  refine HC.out.mono ?_
  rintro e w2 ⟨u1,rfl,HD0⟩
  have HD:=hide HD0
  clear HD0 HC
  go_wp2_with fail
  refine HD.out.mono ?_
  rintro e w3 ⟨rfl,hQ⟩
  go_wp2
  go_ret
  exact ⟨rfl,hQ⟩

set_option maxRecDepth 100000 in
set_option maxHeartbeats 2000000 in
theorem step_kind13 (w:World) (p:Nat) (Q:World→Prop) (o:OpV) (lx rx:Nat) (h:OpAt w p o lx rx) (hk:o.kd=13) (HB:Hid (∀ W,Kep non w W→Calls Tryz.prog 18 #[.pointer (some ⟨lx,0,none⟩),.int .i64 o.A,.int .i64 o.B] W fun e w1=>∃ c,e = .returned (.int .i64 c)∧Kep (fun b=>b<w.heap.size) W w1∧Calls Tryz.prog 19 #[.pointer (some ⟨rx,0,none⟩),.int .i64 o.A,.int .i64 o.B] w1 fun e w2=>e = .returned (.int .i64 c)∧Q w2)) :
    Calls Tryz.prog 8 #[.pointer (some ⟨p,0,none⟩),.agg o.cells] w fun e w'=>e = .returned (.bool true)∧Q w':=by
  obtain ⟨ra,rn,rc,hrv⟩:=h.rv
  refine step_pre w p Q o lx rx h (by omega) ?_
  intro nb zb W hz hnb HKX b0 b1 HZ
  intros
  obtain ⟨kd,M,A,B,C,D,E,rv,o0,o1,o2,o3,o4,o5,o6,o7⟩:=o
  simp only [] at hk hrv HB
  subst hrv
  obtain ⟨q0,q1,q2,q3,q4,q5,q6,q7,q8,q9,q10,q11,q12,q13,q14,q15⟩:=HZ
  simp only [] at q0 q1 q2 q3 q4 q5 q6 q7 q8 q9 q10 q11 q12 q13 q14 q15
  clear h
  simp only [OpV.cells]
  conv=>arg 2;whnf
  subst hk
  go_wp2_with fail
  refine (HB.out _ HKX.out).mono ?_
  rintro e w1 ⟨c1,rfl,k1,HC0⟩
  have HC:=hide HC0
  clear HC0 HB
  subst hz
  replace b1:=k1.cell b1 (fun q=>by simp only [] at q;omega)
  replace q2:=k1.cell q2 (fun q=>by simp only [] at q;omega)
  replace q3:=k1.cell q3 (fun q=>by simp only [] at q;omega)
  clear b0 k1
  go_wp2_with fail
  refine HC.out.mono ?_
  rintro e w2 ⟨rfl,hQ⟩
  go_wp2
  go_ret
  exact ⟨by simp,hQ⟩

set_option maxRecDepth 100000 in
set_option maxHeartbeats 2000000 in
theorem step_kind10 (w:World) (p:Nat) (Q:World→Prop) (o:OpV) (lx rx:Nat) (h:OpAt w p o lx rx) (hk:o.kd=10) (HB:Hid (∀ W,Kep non w W→Calls Tryz.prog 17 #[.pointer (some ⟨p,0,none⟩),.agg #[.pointer (some ⟨lx,0,none⟩),.pointer (some ⟨rx,0,none⟩)],.agg o.cells] W fun e w'=>e = .returned (.bool true)∧Q w')) :
    Calls Tryz.prog 8 #[.pointer (some ⟨p,0,none⟩),.agg o.cells] w fun e w'=>e = .returned (.bool true)∧Q w':=by
  obtain ⟨ra,rn,rc,hrv⟩:=h.rv
  refine step_pre w p Q o lx rx h (by omega) ?_
  intro nb zb W hz hnb HKX b0 b1 HZ
  intros
  obtain ⟨kd,M,A,B,C,D,E,rv,o0,o1,o2,o3,o4,o5,o6,o7⟩:=o
  simp only [] at hk hrv HB
  subst hrv
  obtain ⟨q0,q1,q2,q3,q4,q5,q6,q7,q8,q9,q10,q11,q12,q13,q14,q15⟩:=HZ
  simp only [] at q0 q1 q2 q3 q4 q5 q6 q7 q8 q9 q10 q11 q12 q13 q14 q15
  clear h
  simp only [OpV.cells] at HB ⊢
  conv=>arg 2;whnf
  subst hk
  go_wp2_with ((go_at_call 17;refine (HB.out _ HKX.out).mono ?_;rintro e W' ⟨rfl,hP⟩))
  go_ret
  exact ⟨rfl,hP⟩

set_option maxRecDepth 100000 in
set_option maxHeartbeats 2000000 in
theorem step_kind11 (w:World) (p:Nat) (Q:World→Prop) (o:OpV) (lx rx:Nat) (h:OpAt w p o lx rx) (hk:o.kd=11) (HB:Hid (∀ W,Kep non w W→Calls Tryz.prog 17 #[.pointer (some ⟨p,0,none⟩),.agg #[.pointer (some ⟨lx,0,none⟩),.pointer (some ⟨rx,0,none⟩)],.agg o.cells] W fun e w'=>e = .returned (.bool true)∧Q w')) :
    Calls Tryz.prog 8 #[.pointer (some ⟨p,0,none⟩),.agg o.cells] w fun e w'=>e = .returned (.bool true)∧Q w':=by
  obtain ⟨ra,rn,rc,hrv⟩:=h.rv
  refine step_pre w p Q o lx rx h (by omega) ?_
  intro nb zb W hz hnb HKX b0 b1 HZ
  intros
  obtain ⟨kd,M,A,B,C,D,E,rv,o0,o1,o2,o3,o4,o5,o6,o7⟩:=o
  simp only [] at hk hrv HB
  subst hrv
  obtain ⟨q0,q1,q2,q3,q4,q5,q6,q7,q8,q9,q10,q11,q12,q13,q14,q15⟩:=HZ
  simp only [] at q0 q1 q2 q3 q4 q5 q6 q7 q8 q9 q10 q11 q12 q13 q14 q15
  clear h
  simp only [OpV.cells] at HB ⊢
  conv=>arg 2;whnf
  subst hk
  go_wp2_with ((go_at_call 17;refine (HB.out _ HKX.out).mono ?_;rintro e W' ⟨rfl,hP⟩))
  go_ret
  exact ⟨rfl,hP⟩

set_option maxRecDepth 100000 in
set_option maxHeartbeats 2000000 in
theorem step_kind12 (w:World) (p:Nat) (Q:World→Prop) (o:OpV) (lx rx:Nat) (h:OpAt w p o lx rx) (hk:o.kd=12) (HB:Hid (∀ W,Kep non w W→Calls Tryz.prog 17 #[.pointer (some ⟨p,0,none⟩),.agg #[.pointer (some ⟨lx,0,none⟩),.pointer (some ⟨rx,0,none⟩)],.agg o.cells] W fun e w'=>e = .returned (.bool true)∧Q w')) :
    Calls Tryz.prog 8 #[.pointer (some ⟨p,0,none⟩),.agg o.cells] w fun e w'=>e = .returned (.bool true)∧Q w':=by
  obtain ⟨ra,rn,rc,hrv⟩:=h.rv
  refine step_pre w p Q o lx rx h (by omega) ?_
  intro nb zb W hz hnb HKX b0 b1 HZ
  intros
  obtain ⟨kd,M,A,B,C,D,E,rv,o0,o1,o2,o3,o4,o5,o6,o7⟩:=o
  simp only [] at hk hrv HB
  subst hrv
  obtain ⟨q0,q1,q2,q3,q4,q5,q6,q7,q8,q9,q10,q11,q12,q13,q14,q15⟩:=HZ
  simp only [] at q0 q1 q2 q3 q4 q5 q6 q7 q8 q9 q10 q11 q12 q13 q14 q15
  clear h
  simp only [OpV.cells] at HB ⊢
  conv=>arg 2;whnf
  subst hk
  go_wp2_with ((go_at_call 17;refine (HB.out _ HKX.out).mono ?_;rintro e W' ⟨rfl,hP⟩))
  go_ret
  exact ⟨rfl,hP⟩
end

section
open Go.RowKit Go.Sort

theorem oper_in {P:Program} {r n:Nat} {Q:Exit→Act→World→Prop} (hQ:¬ LetsOut Q) {o:Oper} (hd:∀ c,o.op ≠ .defer c) {a:Act} {w:World} {K K':Act→World→Prop} (hK:∀ a w,K a w→K' a w) (h:o.wp P a w K Q):o.wpIn (Fence.wide.inRound r) n P a w K' Q:=by
  unfold Oper.wp at h
  unfold Oper.wpIn
  refine ⟨fun _ _=>trivial,?_⟩
  rw [Oper.semAt_eq _ _ _ hd]
  generalize (execOp a.eval o).run P w=res at *
  cases res with
  | ok x w' =>
    cases x with
    | value v=>exact hK _ _ h
    | skip=>exact hK _ _ h
    | defer d=>exact hK _ _ h
    | enter f args =>
      refine ⟨fun f=>by simp [Fence.wide,Fence.inRound] at f,CallsIn.inRound r ((callsIn_wide).2 (Calls.mono h fun e w'' he=>?_))⟩
      cases e with
      | returned v=>exact hK _ _ he
      | panicked c=>exact he
      | outgrown=>exact absurd he hQ
    | row row args =>
      refine ⟨fun f=>by simp [Fence.wide,Fence.inRound] at f,fun c cs _=>?_⟩
      obtain ⟨v,w2,h1,h2⟩:=h c cs
      exact ⟨v,w2,hK _ _ h1,stepsIn_wide.2 h2⟩
    | round l f tmps assign body=>exact h.elim
    | _=>exact h.elim
  | halt x w' =>
    cases x <;> first | exact h | exact h.elim

theorem any_in {P:Program} {r n:Nat} {md:Region.Mode} {ops:Array Oper} {Q:Exit→Act→World→Prop} (hQ:¬ LetsOut Q) (hd:∀ (i:Nat) (o:Oper),ops[i]? = some o→∀ c,o.op ≠ .defer c):∀ (fuel:Nat) (listed:Array Bool) (a:Act) (w:World),wpAny P md ops Q fuel listed a w→wpAnyIn (Fence.wide.inRound r) n P md ops Q fuel listed a w
  | 0,_,_,_,h=>h
  | fuel+1,listed,a,w,h=>by
    refine ⟨h.1,fun i hi=>?_⟩
    have h1:=h.2 i hi
    unfold wpOp at h1
    unfold wpOpIn
    cases e:ops[i]? with
    | none=>rw [e] at h1;exact any_in hQ hd fuel _ _ _ h1
    | some o =>
      rw [e] at h1
      simp only at h1 ⊢
      by_cases hw:Region.wanted o (yielded ops a.tmps)=true
      · rw [if_pos hw] at h1 ⊢
        rcases h1 with h1 | ⟨_,h1⟩
        · exact oper_in hQ (hd i o e) (fun a w h=>any_in hQ hd fuel _ a w h) h1
        · exact absurd h1 hQ
      · rw [if_neg hw] at h1 ⊢
        exact ⟨fun _ _=>trivial,any_in hQ hd fuel _ _ _ h1⟩

def noDefer (l:List Oper):Bool:=l.all fun o=>match o.op with
  | .defer _=>false
  | _=>true
theorem noDefer_spec {l:List Oper} (h:noDefer l=true):∀ (i:Nat) (o:Oper),l.toArray[i]? = some o→∀ c,o.op ≠ .defer c:=fun i o ho c e=>by
  have h1:=List.all_eq_true.1 h o (List.mem_of_getElem? (by simpa using ho))
  rw [e] at h1
  cases h1

theorem region_any_in {P:Program} {r n0 id:Nat} {Q:Exit→Act→World→Prop} {a:Act} {w:World} {l:List Oper} (hm:P.follows .mixedOrders=true) (hnd:noDefer l=true)
    (h:∀ Q':Exit→Act→World→Prop,(∀ a' w',Q .normal a' w'→Q' .normal a' w')→(∀ c a' w',¬ Q' (.panic c) a' w')→wpAny P .any l.toArray Q' l.toArray.size (Array.replicate l.toArray.size false) a w.drew):(Code.region id l.toArray true).wpIn (Fence.wide.inRound r) n0 P Q a w:=by
  have h:=h (fun e a w=>e = .normal∧Q e a w) (fun a' w' q=>⟨rfl,q⟩) (fun c a' w' f=>by cases f.1)
  have hQ:¬ LetsOut (fun e a w=>e=Exit.normal∧Q e a w):=fun ⟨_,_,f,_⟩=>by cases f
  exact Code.wpIn_mono (fun _ _ _ q=>q.2) (wpIn_region_any hm (any_in hQ (noDefer_spec hnd) _ _ _ _ h))

theorem region_tail_in {P:Program} {r n0 id:Nat} {Q:Exit→Act→World→Prop} {a:Act} {w:World} {l:List Oper} (n:Nat) (hm:P.follows .mixedOrders=true) (hB:Region.lexTailB .any l.toArray n=true) (hnd:noDefer l=true) (V:World) (hV:V=w.drew)
    (h:∀ Q':Exit→Act→World→Prop,(∀ a' w',Q .normal a' w'→Q' .normal a' w')→wpStill P l.toArray V (fun a'=>wpList P l.toArray Q' (l.drop n) a' V) (l.take n) a):(Code.region id l.toArray true).wpIn (Fence.wide.inRound r) n0 P Q a w:=by
  subst hV
  have h:=h (fun e a w=>e ≠ .outgrown∧Q e a w) fun a' w' q=>⟨by simp,q⟩
  have hQ:¬ LetsOut (fun e a w=>e≠Exit.outgrown∧Q e a w):=fun ⟨_,_,f,_⟩=>f rfl
  simp only [Region.lexTailB,Bool.and_eq_true,decide_eq_true_eq] at hB
  obtain ⟨⟨⟨⟨hsel,hn⟩,hs⟩,hc⟩,hlex⟩:=hB
  have hn':n<l.length:=by simpa using hn
  have htl:(l.take n).length=n:=by rw [List.length_take];omega
  have hdl:(l.drop n).length=l.toArray.size - n:=by simp
  have i0:HeadInv .any l.toArray n (Array.replicate l.toArray.size false) :=
    ⟨by simp,fun _ _ _ q=>(by rw [getD_replicate_false] at q;cases q),fun _ _ q=>getD_in (by simpa using q) (getD_replicate_false _ _)⟩
  have H:=wpAnyL_lex (md:=.any) (g:=l.toArray.size - n) hsel hs hc hn (l.take n) 0 _ a (fun j hj=>by
    rw [htl] at hj
    simp [hj]) (by simpa using htl) i0 (by rw [htl];exact hlex) h
  have H2:=wpAny_of_head (Q':=fun e a w=>e ≠ .outgrown∧Q e a w) (g:=l.toArray.size - n) (fun listed a' hL=>by
    have q:=wpAny_of_seq (md:=.any) (Q':=fun e a w=>e ≠ .outgrown∧Q e a w) (l.drop n) n listed a' w.drew (fun j=>by simp [List.getElem?_drop]) (by rw [hdl];exact hL.1) hL.2
    rwa [hdl] at q) _ _ _ H
  rw [htl,show n+(l.toArray.size - n)=l.toArray.size by omega] at H2
  exact Code.wpIn_mono (fun _ _ _ q=>q.2) (wpIn_region_any hm (any_in hQ (noDefer_spec hnd) _ _ _ _ H2))
end

end Go.Proofs.YtcfoobhihhndjaaGreat
