
import Derived.Test.YtcfoobhihhndjaaGreatB15
import Derived.Test.YtcfoobhihhndjaaGreatB16
namespace Go.Proofs.YtcfoobhihhndjaaGreat

section
open Go.RowKit Go.Sort

structure Run (h g s:Nat) (N:Int) (I:Mt→Od→Prop):Prop where
  ok:∀ m o,I m o→m.Ok N
  bd:∀ m o,I m o→at3 m h g s∧o.h=h∧o.g=g∧o.s=otherS s∧(0≤o.t∧o.t<m.T)∧(1≤o.p∧o.p≤100000)∧(0≤o.q∧o.q≤10000)
  st:∀ m o,I m o→(0≤m.pi h g∧m.pi h g≤1000000000000)∧(0≤m.am h g∧m.am h g≤1000000000000000000)
  tb:∀ m o z r,I m o→m.bk h g s=z :: r→I (releaseM (m.setBk h g s r) z.t.toNat h g s z) o
  tr:∀ m o z r,I m o→0<o.q→m.bk h g s=z :: r→pfits o z=true→z.t≠o.t→z.q - min o.q z.q=0→I ((noteM (oneM m h g s o z (min o.q z.q)) h g z.p (min o.q z.q)).setBk h g s r) { o with q:=o.q - min o.q z.q }
  tq:∀ m o z r,I m o→0<o.q→m.bk h g s=z :: r→pfits o z=true→z.t≠o.t→z.q - min o.q z.q≠0→I (noteM (oneM m h g s o z (min o.q z.q)) h g z.p (min o.q z.q)) { o with q:=o.q - min o.q z.q }

def qlen:Option Value→Nat
  | some (.slice _ n _)=>n
  | _=>0
def posN:Option Value→Nat
  | some (.int _ x)=>if 0<x then 1 else 0
  | _=>0

structure MHead (h g s:Nat) (w:World) (L:PL) (m:Mt) (xb:Nat) (I:Mt→Od→Prop) (M:Mt × Od × List Td) (L':PL) (m':Mt) (o':Od) (tv:Value) (ts:List Td) (W:World):Prop where
  S:MS w L m xb L' m' o' tv ts W
  I:I m' o'
  C:∃ rest,matchM h g s (m'.bk h g s) m' o'=(M.1,M.2.1,rest)∧M.2.2=ts ++ rest

section
variable {h g s:Nat} {w:World} {L:PL} {m:Mt} {xb:Nat} {I:Mt→Od→Prop} {M:Mt × Od × List Td} {L':PL} {m':Mt} {o':Od} {tv:Value} {ts:List Td} {W:World}

theorem MHead.qlen (H:MHead h g s w L m xb I M L' m' o' tv ts W) (q:at3 m' h g s):qlen (W.cell? ⟨L.qb h g s,1,none⟩)=(m'.bk h g s).length:=by
  obtain ⟨a,c,e⟩:=H.S.R.qvform q
  have h1:=(H.S.R.q1 h g s q).cell
  rw [e,H.S.R.ln h g s q,H.S.ex.2.1] at h1
  rw [h1]
  rfl

theorem MHead.posN (H:MHead h g s w L m xb I M L' m' o' tv ts W):posN (W.cell? ⟨xb,6,none⟩)=if 0<o'.q then 1 else 0:=by
  rw [(H.S.c 6 _ rfl).cell]
  rfl

theorem MHead.later (H:MHead h g s w L m xb I M L' m' o' tv ts W) {W':World} (k:Kep non W W'):MHead h g s w L m xb I M L' m' o' tv ts W':=⟨H.S.later k,H.I,H.C⟩

theorem MHead.fin (H:MHead h g s w L m xb I M L' m' o' tv ts W) (e:matchM h g s (m'.bk h g s) m' o'=(m',o',[])):MS w L m xb L' M.1 M.2.1 tv M.2.2 W:=by
  obtain ⟨rest,h1,h2⟩:=H.C
  rw [e] at h1
  injection h1 with a1 a2
  injection a2 with a2 a3
  subst a3
  rw [h2,List.append_nil,← a1,← a2]
  exact H.S
end

def scopeIn:Code→Option Code
  | .scope c=>some c
  | .seq a b=>match scopeIn a with
    | some c=>some c
    | none=>scopeIn b
  | .block _ c=>scopeIn c
  | .loop c=>scopeIn c
  | .cond _ a b=>match scopeIn a with
    | some c=>some c
    | none=>scopeIn b
  | _=>none
def loopIn:Code→Option Code
  | .loop c=>some c
  | .seq a b=>match loopIn a with
    | some c=>some c
    | none=>loopIn b
  | .block _ c=>loopIn c
  | .scope c=>loopIn c
  | .cond _ a b=>match loopIn a with
    | some c=>some c
    | none=>loopIn b
  | _=>none
def behindLabel:Code→Code
  | .seq (.label _) r=>r
  | c=>c

set_option maxRecDepth 1000000 in
def MFr (vx vo vb vq tv:Value) (a:Act):Prop:=∃ u2 u3 u4 u8 u9 u10 u11 u12 u13 u14 u15 u16 u17 u18 u19 u20 u21 u22 u23 u24 u25 u26 u27 u28 u29 u30 u31 u32 u33 u34 u35 u36 u37 u38 u39 u40 u41 u42 u43 u44 u45 u46 u47 u48 u49 u50 u51 u52 u53 u54 u55 u56 u57 u58 u59 u60 u61 u62 u63 u64 u65 u66 u67 u68 u69 u70 u71 u72 u73:Value,a=⟨#[vx,vo,u2,u3,u4,vb,vq,tv,u8,u9,u10,u11,u12,u13,u14,u15,u16,u17,u18,u19,u20,u21,u22,u23,u24,u25,u26,u27,u28,u29,u30,u31,u32,u33,u34,u35,u36,u37,u38,u39,u40,u41,u42,u43,u44,u45,u46,u47,u48,u49,u50,u51,u52,u53,u54,u55,u56,u57,u58,u59,u60,u61,u62,u63,u64,u65,u66,u67,u68,u69,u70,u71,u72,u73],[]⟩

set_option maxHeartbeats 4000000 in
set_option maxRecDepth 1000000 in
theorem pass_none {h g s:Nat} {w:World} {L:PL} {m:Mt} {xb:Nat} {N:Int} {I:Mt→Od→Prop} {M:Mt × Od × List Td} {L':PL} {m':Mt} {o':Od} {tv:Value} {ts:List Td} {W:World} (run:Run h g s N I) (H:MHead h g s w L m xb I M L' m' o' tv ts W) (hb:m'.bk h g s=[]) {Q:Exit→Act→World→Prop} (hE:∀ a W',MFr (.pointer (some ⟨L.x,0,none⟩)) (.pointer (some ⟨xb,0,none⟩)) (.pointer (some ⟨L.gb h,g * 5,none⟩)) (.pointer (some ⟨L.qb h g s,0,none⟩)) tv a→MS w L m xb L' M.1 M.2.1 tv M.2.2 W'→Q (.exit 0) a W') (u2 u3 u4 u8 u9 u10 u11 u12 u13 u14 u15 u16 u17 u18 u19 u20 u21 u22 u23 u24 u25 u26 u27 u28 u29 u30 u31 u32 u33 u34 u35 u36 u37 u38 u39 u40 u41 u42 u43 u44 u45 u46 u47 u48 u49 u50 u51 u52 u53 u54 u55 u56 u57 u58 u59 u60 u61 u62 u63 u64 u65 u66 u67 u68 u69 u70 u71 u72 u73:Value) :
    Code.wp Tryz.prog (behindLabel ((Tryz.f44.body.bind scopeIn).getD .skip)) Q ⟨#[.pointer (some ⟨L.x,0,none⟩),.pointer (some ⟨xb,0,none⟩),u2,u3,u4,.pointer (some ⟨L.gb h,g * 5,none⟩),.pointer (some ⟨L.qb h g s,0,none⟩),tv,u8,u9,u10,u11,u12,u13,u14,u15,u16,u17,u18,u19,u20,u21,u22,u23,u24,u25,u26,u27,u28,u29,u30,u31,u32,u33,u34,u35,u36,u37,u38,u39,u40,u41,u42,u43,u44,u45,u46,u47,u48,u49,u50,u51,u52,u53,u54,u55,u56,u57,u58,u59,u60,u61,u62,u63,u64,u65,u66,u67,u68,u69,u70,u71,u72,u73],[]⟩ W:=by
  have HF:=hide (first_q0 H.S.R (run.bd _ _ H.I).1 hb)
  rw [H.S.ex.2.1] at HF
  have HE:=hide (fun a (f:MFr (.pointer (some ⟨L.x,0,none⟩)) (.pointer (some ⟨xb,0,none⟩)) (.pointer (some ⟨L.gb h,g * 5,none⟩)) (.pointer (some ⟨L.qb h g s,0,none⟩)) tv a)=>hE a W f (H.fin (by rw [hb];rfl)))
  clear hE H run
  conv=>arg 2;whnf
  go_wp2_with (go_at_call 98;refine HF.out.mono ?_;rintro e w' ⟨rfl,rfl⟩)
  exact HE.out _ ⟨_,_,_,_,_,_,_,_,_,_,_,_,_,_,_,_,_,_,_,_,_,_,_,_,_,_,_,_,_,_,_,_,_,_,_,_,_,_,_,_,_,_,_,_,_,_,_,_,_,_,_,_,_,_,_,_,_,_,_,_,_,_,_,_,_,_,_,_,_,rfl⟩

set_option maxHeartbeats 4000000 in
set_option maxRecDepth 1000000 in
theorem pass_far {h g s:Nat} {w:World} {L:PL} {m:Mt} {xb:Nat} {N:Int} {I:Mt→Od→Prop} {M:Mt × Od × List Td} {L':PL} {m':Mt} {o':Od} {tv:Value} {ts:List Td} {W:World} (run:Run h g s N I) (H:MHead h g s w L m xb I M L' m' o' tv ts W) {z:Od} {r:List Od} (hb:m'.bk h g s=z :: r) (hq0:0<o'.q) (hpf:pfits o' z=false) {Q:Exit→Act→World→Prop} (hE:∀ a W',MFr (.pointer (some ⟨L.x,0,none⟩)) (.pointer (some ⟨xb,0,none⟩)) (.pointer (some ⟨L.gb h,g * 5,none⟩)) (.pointer (some ⟨L.qb h g s,0,none⟩)) tv a→MS w L m xb L' M.1 M.2.1 tv M.2.2 W'→Q (.exit 0) a W') (u2 u3 u4 u8 u9 u10 u11 u12 u13 u14 u15 u16 u17 u18 u19 u20 u21 u22 u23 u24 u25 u26 u27 u28 u29 u30 u31 u32 u33 u34 u35 u36 u37 u38 u39 u40 u41 u42 u43 u44 u45 u46 u47 u48 u49 u50 u51 u52 u53 u54 u55 u56 u57 u58 u59 u60 u61 u62 u63 u64 u65 u66 u67 u68 u69 u70 u71 u72 u73:Value) :
    Code.wp Tryz.prog (behindLabel ((Tryz.f44.body.bind scopeIn).getD .skip)) Q ⟨#[.pointer (some ⟨L.x,0,none⟩),.pointer (some ⟨xb,0,none⟩),u2,u3,u4,.pointer (some ⟨L.gb h,g * 5,none⟩),.pointer (some ⟨L.qb h g s,0,none⟩),tv,u8,u9,u10,u11,u12,u13,u14,u15,u16,u17,u18,u19,u20,u21,u22,u23,u24,u25,u26,u27,u28,u29,u30,u31,u32,u33,u34,u35,u36,u37,u38,u39,u40,u41,u42,u43,u44,u45,u46,u47,u48,u49,u50,u51,u52,u53,u54,u55,u56,u57,u58,u59,u60,u61,u62,u63,u64,u65,u66,u67,u68,u69,u70,u71,u72,u73],[]⟩ W:=by
  have q:=(run.bd _ _ H.I).1
  obtain ⟨y,ys,hob⟩:=H.S.R.head q hb
  have HF:=hide (first_q1 H.S.R q hob)
  rw [H.S.ex.2.1] at HF
  have hz:OdAt W y z:=fun j v hv=>H.S.R.oc h g s 0 y z q (by rw [hob];rfl) (by rw [hb];rfl) j v hv
  have HP:=hide (pricesFit_any W xb y o' z H.S.c hz)
  rw [hpf] at HP
  have HE:=hide (fun n a (f:MFr (.pointer (some ⟨L.x,0,none⟩)) (.pointer (some ⟨xb,0,none⟩)) (.pointer (some ⟨L.gb h,g * 5,none⟩)) (.pointer (some ⟨L.qb h g s,0,none⟩)) tv a)=>hE a (W.drewN n) f ((H.later ((Kep.refl non W).drewN n)).fin (by rw [hb,matchM,if_neg (by omega),if_pos hpf])))
  clear hE H run hz
  conv=>arg 2;whnf
  go_wp2_with (first | (go_at_call 98;refine HF.out.mono ?_;rintro e w' ⟨rfl,rfl⟩) | (go_at_call 99;refine HP.out.mono ?_;rintro e w' ⟨rfl,k,rfl⟩))
  exact HE.out _ _ ⟨_,_,_,_,_,_,_,_,_,_,_,_,_,_,_,_,_,_,_,_,_,_,_,_,_,_,_,_,_,_,_,_,_,_,_,_,_,_,_,_,_,_,_,_,_,_,_,_,_,_,_,_,_,_,_,_,_,_,_,_,_,_,_,_,_,_,_,_,_,rfl⟩

theorem bk_release (m:Mt) (t h g s:Nat) (o:Od):(releaseM m t h g s o).bk=m.bk:=by unfold releaseM;split <;> rfl
theorem bk_set (m:Mt) (h g s:Nat) (r:List Od):(m.setBk h g s r).bk h g s=r:=by simp [Mt.setBk]

theorem MHead.own {h g s:Nat} {w:World} {L:PL} {m:Mt} {xb:Nat} {I:Mt→Od→Prop} {M:Mt × Od × List Td} {L' L'':PL} {m':Mt} {o':Od} {tv:Value} {ts:List Td} {W W':World} {N:Int} (run:Run h g s N I) (H:MHead h g s w L m xb I M L' m' o' tv ts W) {z:Od} {r:List Od} (hb:m'.bk h g s=z :: r) (hq0:0<o'.q) (hpf:pfits o' z=true) (hzt:z.t=o'.t)
    (S:MS w L m xb L'' (releaseM (m'.setBk h g s r) z.t.toNat h g s z) o' tv ts W'):MHead h g s w L m xb I M L'' (releaseM (m'.setBk h g s r) z.t.toNat h g s z) o' tv ts W':=by
  refine ⟨S,run.tb _ _ _ _ H.I hb,?_⟩
  obtain ⟨rest,h1,h2⟩:=H.C
  refine ⟨rest,?_,h2⟩
  rw [hb,matchM,if_neg (by omega),if_neg (by rw [hpf];decide),if_pos hzt] at h1
  rw [bk_release,bk_set]
  exact h1

set_option maxHeartbeats 4000000 in
set_option maxRecDepth 1000000 in
theorem pass_own {h g s:Nat} {w:World} {L:PL} {m:Mt} {xb:Nat} {N:Int} {I:Mt→Od→Prop} {M:Mt × Od × List Td} {L':PL} {m':Mt} {o':Od} {tv:Value} {ts:List Td} {W:World} (run:Run h g s N I) (H:MHead h g s w L m xb I M L' m' o' tv ts W) {z:Od} {r:List Od} (hb:m'.bk h g s=z :: r) (h60:(m'.bk h g s).length≤1000000) (hq0:0<o'.q) (hpf:pfits o' z=true) (hzt:z.t=o'.t) {Q:Exit→Act→World→Prop} (hG:∀ a W' L'',MFr (.pointer (some ⟨L.x,0,none⟩)) (.pointer (some ⟨xb,0,none⟩)) (.pointer (some ⟨L.gb h,g * 5,none⟩)) (.pointer (some ⟨L.qb h g s,0,none⟩)) tv a→MHead h g s w L m xb I M L'' (releaseM (m'.setBk h g s r) z.t.toNat h g s z) o' tv ts W'→Q (.goto 0) a W') (u2 u3 u4 u8 u9 u10 u11 u12 u13 u14 u15 u16 u17 u18 u19 u20 u21 u22 u23 u24 u25 u26 u27 u28 u29 u30 u31 u32 u33 u34 u35 u36 u37 u38 u39 u40 u41 u42 u43 u44 u45 u46 u47 u48 u49 u50 u51 u52 u53 u54 u55 u56 u57 u58 u59 u60 u61 u62 u63 u64 u65 u66 u67 u68 u69 u70 u71 u72 u73:Value) :
    Code.wp Tryz.prog (behindLabel ((Tryz.f44.body.bind scopeIn).getD .skip)) Q ⟨#[.pointer (some ⟨L.x,0,none⟩),.pointer (some ⟨xb,0,none⟩),u2,u3,u4,.pointer (some ⟨L.gb h,g * 5,none⟩),.pointer (some ⟨L.qb h g s,0,none⟩),tv,u8,u9,u10,u11,u12,u13,u14,u15,u16,u17,u18,u19,u20,u21,u22,u23,u24,u25,u26,u27,u28,u29,u30,u31,u32,u33,u34,u35,u36,u37,u38,u39,u40,u41,u42,u43,u44,u45,u46,u47,u48,u49,u50,u51,u52,u53,u54,u55,u56,u57,u58,u59,u60,u61,u62,u63,u64,u65,u66,u67,u68,u69,u70,u71,u72,u73],[]⟩ W:=by
  have q:=(run.bd _ _ H.I).1
  obtain ⟨y,ys,hob⟩:=H.S.R.head q hb
  have HF:=hide (first_q1 H.S.R q hob)
  rw [H.S.ex.2.1] at HF
  have hz:OdAt W y z:=fun j v hv=>H.S.R.oc h g s 0 y z q (by rw [hob];rfl) (by rw [hb];rfl) j v hv
  have HP:=hide (pricesFit_any W xb y o' z H.S.c hz)
  rw [hpf] at HP
  have HT:=hide (fun W1 (k:Kep non W W1)=>takeBack_ms (H.later k).S (run.ok _ _ H.I) q h60 hb hob)
  rw [H.S.ex.1] at HT
  have HE:=hide (fun a W' L'' (f:MFr (.pointer (some ⟨L.x,0,none⟩)) (.pointer (some ⟨xb,0,none⟩)) (.pointer (some ⟨L.gb h,g * 5,none⟩)) (.pointer (some ⟨L.qb h g s,0,none⟩)) tv a) (S:MS w L m xb L'' (releaseM (m'.setBk h g s r) z.t.toNat h g s z) o' tv ts W')=>hG a W' L'' f (H.own run hb hq0 hpf hzt S))
  have z1:=(hz 1 _ rfl).cell
  have o1:=(H.S.c 1 _ rfl).cell
  have e1:(z.t == o'.t)=true:=by rw [hzt];simp
  clear hG H run hz hb hob hq0 hpf hzt
  conv=>arg 2;whnf
  go_wp2_with (first | (go_at_call 98;refine HF.out.mono ?_;rintro e w' ⟨rfl,rfl⟩) | (go_at_call 99;refine HP.out.mono ?_;rintro e w' ⟨rfl,k,rfl⟩))
  go_quiet (fail)
  go_wp2_with (go_at_call 65;refine (HT.out _ ?_).mono ?_;(exact (((Kep.refl non _).drewN _)));rintro e w' ⟨rfl,v,S⟩)
  go_step3
  exact HE.out _ _ _ ⟨_,_,_,_,_,_,_,_,_,_,_,_,_,_,_,_,_,_,_,_,_,_,_,_,_,_,_,_,_,_,_,_,_,_,_,_,_,_,_,_,_,_,_,_,_,_,_,_,_,_,_,_,_,_,_,_,_,_,_,_,_,_,_,_,_,_,_,_,_,rfl⟩ S

theorem note_ms2 {w0:World} {L0:PL} {m0:Mt} {xb:Nat} {L:PL} {m:Mt} {o:Od} {tv:Value} {ts:List Td} {W:World} (S:MS w0 L0 m0 xb L m o tv ts W) {h g:Nat} (hh:h<m.H) (hg:g<m.G) (hpi:0≤m.pi h g∧m.pi h g≤1000000000000) (ham:0≤m.am h g∧m.am h g≤1000000000000000000) (t:Td) (hp:0≤t.p∧t.p≤100000) (hq:0≤t.q∧t.q≤10000) :
    Calls Tryz.prog 101 #[.pointer (some ⟨L.gb h,g * 5,none⟩),t.agg] W fun e w'=>e = .returned (.tuple #[])∧MS w0 L0 m0 xb L (noteM m h g t.p t.q) o tv ts w'∧Kep (fun b=>b=L.gb h) W w':=by
  refine (note_any W (L.gb h) (g * 5) (m.la h g) (m.pi h g) (m.am h g) t.tk t.mr t.wi t.p t.q t.f (S.R.la h g hh hg) (S.R.pi h g hh hg) (S.R.am h g hh hg) hpi ham hp hq).mono ?_
  rintro e w' ⟨rfl,rfl⟩
  have hS:L.S m (L.gb h):=⟨.gb h,by simp [PL.F,hh]⟩
  have hne:xb≠L.gb h:=fun f=>S.nx (f ▸ hS)
  have k:Kep (fun b=>b=L.gb h) W (((W.setCell ⟨L.gb h,g * 5+2,none⟩ (.int .i64 t.p)).setCell ⟨L.gb h,g * 5+3,none⟩ (.int .i64 (m.pi h g+t.q))).setCell ⟨L.gb h,g * 5+4,none⟩ (.int .i64 (m.am h g+t.p * t.q))) :=
    (((Kep.refl (fun b=>b=L.gb h) W).setCell (p:=⟨L.gb h,g * 5+2,none⟩) (.inl rfl) _).setCell (p:=⟨L.gb h,g * 5+3,none⟩) (.inl rfl) _).setCell (p:=⟨L.gb h,g * 5+4,none⟩) (.inl rfl) _
  have S2:=S.same (k.mono (S':=fun b=>L.S m b∨b=xb) (fun b hb=>.inl (.inl (hb ▸ hS)))) (S.R.note hh hg t.p t.q) (fun j v hv=>(S.c j v hv).kep k hne) (S.pl.kep k hne) ⟨rfl,rfl,rfl⟩
  exact ⟨rfl,S2.later (((Kep.refl non _).alloc _).drewN 2),(k.alloc _).drewN 2⟩

structure TrSt (w:World) (L:PL) (m:Mt) (xb:Nat) (L':PL) (m':Mt) (o':Od) (tv:Value) (ts:List Td) (td:Td) (B:Nat) (W:World):Prop where
  S:MS w L m xb L' m' o' tv ts W
  b:W.heap[B]? = some (.cells #[.int .i64 td.tk,.int .i64 td.mr,.int .i64 td.wi,.int .i64 td.p,.int .i64 td.q,.int .i64 td.f] 67 (0,0))

theorem TrSt.cells {w:World} {L:PL} {m:Mt} {xb:Nat} {L':PL} {m':Mt} {o':Od} {tv:Value} {ts:List Td} {td:Td} {B:Nat} {W:World} (T:TrSt w L m xb L' m' o' tv ts td B W) :
    W.cell? ⟨B,0,none⟩=some (.int .i64 td.tk)∧W.cell? ⟨B,1,none⟩=some (.int .i64 td.mr)∧W.cell? ⟨B,2,none⟩=some (.int .i64 td.wi)∧W.cell? ⟨B,3,none⟩=some (.int .i64 td.p)∧W.cell? ⟨B,4,none⟩=some (.int .i64 td.q)∧W.cell? ⟨B,5,none⟩=some (.int .i64 td.f) :=
  ⟨cell_of_row _ _ 0 _ _ _ T.b,cell_of_row _ _ 1 _ _ _ T.b,cell_of_row _ _ 2 _ _ _ T.b,cell_of_row _ _ 3 _ _ _ T.b,cell_of_row _ _ 4 _ _ _ T.b,cell_of_row _ _ 5 _ _ _ T.b⟩

theorem matchM_trade {h g s:Nat} {m:Mt} {o z:Od} {r:List Od} (hq0:0<o.q) (hpf:pfits o z=true) (hzt:z.t≠o.t) (h0:z.q - min o.q z.q=0) {a:Mt} {b:Od} {c:List Td} (e:matchM h g s (z :: r) m o=(a,b,c)) :
    ∃ c',matchM h g s r ((noteM (oneM m h g s o z (min o.q z.q)) h g z.p (min o.q z.q)).setBk h g s r) { o with q:=o.q - min o.q z.q }=(a,b,c')∧c=oneT m h o z (min o.q z.q) :: c':=by
  rw [matchM,if_neg (by omega),if_neg (by rw [hpf];decide),if_neg hzt,if_pos h0] at e
  injection e with e1 e2
  injection e2 with e2 e3
  exact ⟨_,by rw [← e1,← e2],e3.symm⟩

theorem matchM_left {h g s:Nat} {m:Mt} {o z:Od} {r:List Od} (hq0:0<o.q) (hpf:pfits o z=true) (hzt:z.t≠o.t) (h0:z.q - min o.q z.q≠0) {a:Mt} {b:Od} {c:List Td} (e:matchM h g s (z :: r) m o=(a,b,c)) :
    noteM (oneM m h g s o z (min o.q z.q)) h g z.p (min o.q z.q)=a∧{ o with q:=o.q - min o.q z.q }=b∧c=[oneT m h o z (min o.q z.q)]:=by
  rw [matchM,if_neg (by omega),if_neg (by rw [hpf];decide),if_neg hzt,if_neg h0] at e
  injection e with e1 e2
  injection e2 with e2 e3
  exact ⟨e1,e2,e3.symm⟩

theorem matchM_done {h g s:Nat} {m:Mt} {o:Od} (l:List Od) (hq:o.q≤0):matchM h g s l m o=(m,o,[]):=by
  cases l with
  | nil=>rfl
  | cons z r=>rw [matchM,if_pos hq]

theorem MHead.trade {h g s:Nat} {w:World} {L:PL} {m:Mt} {xb:Nat} {I:Mt→Od→Prop} {M:Mt × Od × List Td} {L' L'':PL} {m':Mt} {o':Od} {tv tv':Value} {ts:List Td} {W W':World} {N:Int} (run:Run h g s N I) (H:MHead h g s w L m xb I M L' m' o' tv ts W) {z:Od} {r:List Od} (hb:m'.bk h g s=z :: r) (hq0:0<o'.q) (hpf:pfits o' z=true) (hzt:z.t≠o'.t) (h0:z.q - min o'.q z.q=0)
    (S:MS w L m xb L'' ((noteM (oneM m' h g s o' z (min o'.q z.q)) h g z.p (min o'.q z.q)).setBk h g s r) { o' with q:=o'.q - min o'.q z.q } tv' (ts ++ [oneT m' h o' z (min o'.q z.q)]) W') :
    MHead h g s w L m xb I M L'' ((noteM (oneM m' h g s o' z (min o'.q z.q)) h g z.p (min o'.q z.q)).setBk h g s r) { o' with q:=o'.q - min o'.q z.q } tv' (ts ++ [oneT m' h o' z (min o'.q z.q)]) W':=by
  refine ⟨S,run.tr _ _ _ _ H.I hq0 hb hpf hzt h0,?_⟩
  obtain ⟨rest,h1,h2⟩:=H.C
  rw [hb] at h1
  obtain ⟨c',h3,h4⟩:=matchM_trade hq0 hpf hzt h0 h1
  refine ⟨c',?_,by rw [h2,h4];simp⟩
  rw [bk_set]
  exact h3

theorem MHead.left {h g s:Nat} {w:World} {L:PL} {m:Mt} {xb:Nat} {I:Mt→Od→Prop} {M:Mt × Od × List Td} {L' L'':PL} {m':Mt} {o':Od} {tv tv':Value} {ts:List Td} {W W':World} {N:Int} (run:Run h g s N I) (H:MHead h g s w L m xb I M L' m' o' tv ts W) {z:Od} {r:List Od} (hb:m'.bk h g s=z :: r) (hq0:0<o'.q) (hpf:pfits o' z=true) (hzt:z.t≠o'.t) (h0:z.q - min o'.q z.q≠0)
    (S:MS w L m xb L'' (noteM (oneM m' h g s o' z (min o'.q z.q)) h g z.p (min o'.q z.q)) { o' with q:=o'.q - min o'.q z.q } tv' (ts ++ [oneT m' h o' z (min o'.q z.q)]) W') :
    MHead h g s w L m xb I M L'' (noteM (oneM m' h g s o' z (min o'.q z.q)) h g z.p (min o'.q z.q)) { o' with q:=o'.q - min o'.q z.q } tv' (ts ++ [oneT m' h o' z (min o'.q z.q)]) W':=by
  refine ⟨S,run.tq _ _ _ _ H.I hq0 hb hpf hzt h0,?_⟩
  obtain ⟨rest,h1,h2⟩:=H.C
  rw [hb] at h1
  obtain ⟨h3,h4,h5⟩:=matchM_left hq0 hpf hzt h0 h1
  refine ⟨[],?_,by rw [h2,h5];simp⟩
  rw [matchM_done _ (by show o'.q - min o'.q z.q≤0;omega),← h3,← h4]

theorem mo_bk0 {m:Mt} {h g s:Nat} {o z:Od} {r:List Od} {n:Int} (hs:s<2) (hb:m.bk h g s=z :: r) (p x:Int):(noteM (oneM m h g s o z n) h g p x).bk h g s={ z with q:=z.q - n } :: r:=by
  show (oneM m h g s o z n).bk h g s=_
  rw [one_bk hs,hb]
  simp [Mt.setBk]

set_option maxHeartbeats 4000000 in
set_option maxRecDepth 1000000 in
theorem pass_trade {h g s:Nat} {w:World} {L:PL} {m:Mt} {xb:Nat} {N:Int} {I:Mt→Od→Prop} {M:Mt × Od × List Td} {L':PL} {m':Mt} {o':Od} {tv:Value} {ts:List Td} {W:World} (run:Run h g s N I) (H:MHead h g s w L m xb I M L' m' o' tv ts W) {z:Od} {r:List Od} (hb:m'.bk h g s=z :: r) (h60:(m'.bk h g s).length≤1000000) (hts:ts.length≤1000000) (hq0:0<o'.q) (hpf:pfits o' z=true) (hzt:z.t≠o'.t) (h0:z.q - min o'.q z.q=0) {Q:Exit→Act→World→Prop} (hN:∀ a W' L'' tv',MFr (.pointer (some ⟨L.x,0,none⟩)) (.pointer (some ⟨xb,0,none⟩)) (.pointer (some ⟨L.gb h,g * 5,none⟩)) (.pointer (some ⟨L.qb h g s,0,none⟩)) tv' a→MHead h g s w L m xb I M L'' ((noteM (oneM m' h g s o' z (min o'.q z.q)) h g z.p (min o'.q z.q)).setBk h g s r) { o' with q:=o'.q - min o'.q z.q } tv' (ts ++ [oneT m' h o' z (min o'.q z.q)]) W'→Q .normal a W') (u2 u3 u4 u8 u9 u10 u11 u12 u13 u14 u15 u16 u17 u18 u19 u20 u21 u22 u23 u24 u25 u26 u27 u28 u29 u30 u31 u32 u33 u34 u35 u36 u37 u38 u39 u40 u41 u42 u43 u44 u45 u46 u47 u48 u49 u50 u51 u52 u53 u54 u55 u56 u57 u58 u59 u60 u61 u62 u63 u64 u65 u66 u67 u68 u69 u70 u71 u72 u73:Value) :
    Code.wp Tryz.prog (behindLabel ((Tryz.f44.body.bind scopeIn).getD .skip)) Q ⟨#[.pointer (some ⟨L.x,0,none⟩),.pointer (some ⟨xb,0,none⟩),u2,u3,u4,.pointer (some ⟨L.gb h,g * 5,none⟩),.pointer (some ⟨L.qb h g s,0,none⟩),tv,u8,u9,u10,u11,u12,u13,u14,u15,u16,u17,u18,u19,u20,u21,u22,u23,u24,u25,u26,u27,u28,u29,u30,u31,u32,u33,u34,u35,u36,u37,u38,u39,u40,u41,u42,u43,u44,u45,u46,u47,u48,u49,u50,u51,u52,u53,u54,u55,u56,u57,u58,u59,u60,u61,u62,u63,u64,u65,u66,u67,u68,u69,u70,u71,u72,u73],[]⟩ W:=by
  obtain ⟨q,eh,eg,es,ht,hp,hq⟩:=run.bd _ _ H.I
  have ok:=run.ok _ _ H.I
  have zo:=ok.od h g s z q.1 q.2.1 q.2.2 (by rw [hb];exact List.mem_cons_self)
  obtain ⟨y,ys,hob⟩:=H.S.R.head q hb
  have HF:=hide (first_q1 H.S.R q hob)
  rw [H.S.ex.2.1] at HF
  have hz:OdAt W y z:=fun j v hv=>H.S.R.oc h g s 0 y z q (by rw [hob];rfl) (by rw [hb];rfl) j v hv
  have HP:=hide (pricesFit_any W xb y o' z H.S.c hz)
  rw [hpf] at HP
  obtain ⟨td,htd⟩ : ∃ td,td=oneT m' h o' z (min o'.q z.q):=⟨_,rfl⟩
  have HT:=hide (fun W1 (k:Kep non W W1)=>trade_ms (H.later k).S ok q hb hob eh eg es ht hp (by omega) hzt)
  rw [H.S.ex.1,← htd] at HT
  have zq:=zo.q
  have zp:=zo.p
  have HD:=hide htd
  have hn:0≤min o'.q z.q∧min o'.q z.q≤10000:=by omega
  have od:=oneM_dims m' h g s o' z (min o'.q z.q)
  have HNt:=hide (fun W1 (S:MS w L m xb L' (oneM m' h g s o' z (min o'.q z.q)) { o' with q:=o'.q - min o'.q z.q } tv ts W1) =>
    note_ms2 S (h:=h) (g:=g) (by rw [od.2.2];exact q.1) (by rw [od.2.1];exact q.2.1) (by rw [(one_rest (min o'.q z.q)).2.2.2.2.2.1];exact (run.st _ _ H.I).1) (by rw [(one_rest (min o'.q z.q)).2.2.2.2.2.2.1];exact (run.st _ _ H.I).2) td (by rw [htd];exact ⟨by have:=zp.1;show 0≤z.p;omega,zp.2⟩) (by rw [htd];exact hn))
  rw [H.S.ex.2.2.1] at HNt
  simp only [Td.agg] at HT HNt
  have HE:=hide (fun a W' L'' tv' (f:MFr (.pointer (some ⟨L.x,0,none⟩)) (.pointer (some ⟨xb,0,none⟩)) (.pointer (some ⟨L.gb h,g * 5,none⟩)) (.pointer (some ⟨L.qb h g s,0,none⟩)) tv' a) (S:MS w L m xb L'' ((noteM (oneM m' h g s o' z (min o'.q z.q)) h g z.p (min o'.q z.q)).setBk h g s r) { o' with q:=o'.q - min o'.q z.q } tv' (ts ++ [td]) W')=>hN a W' L'' tv' f (by rw [htd] at S;exact H.trade run hb hq0 hpf hzt h0 S))
  rw [htd] at HE
  rw [← htd] at HE
  have z1:=(hz 1 _ rfl).cell
  have o1:=(H.S.c 1 _ rfl).cell
  have e1:(z.t == o'.t)=false:=by simp [hzt]
  have gbl:L.gb h<W.heap.size:=by rw [← H.S.ex.2.2.1];exact H.S.R.lt ok.T1 ok.G1 _ ⟨.gb h,by simp [PL.F,q.1]⟩
  have tdp:td.p=z.p∧td.q=min o'.q z.q:=by rw [htd];exact ⟨rfl,rfl⟩
  have HTP:=hide tdp
  have HQ:=hide (And.intro q (And.intro hb (And.intro hob (And.intro ok.T1 (And.intro ok.G1 (And.intro ok.H1 h60))))))
  have HX:=hide H.S.ex
  have H00:=hide h0
  have OD:=hide od
  obtain ⟨i0,hi0,hz0,hz1,hz2⟩:=info_parts infoTrade
  clear hN H run hz hb hob hpf hzt ok od zo eh eg es ht hp hq hn zq zp q tdp h60 htd h0 hq0
  conv=>arg 2;whnf
  go_wp2_with (first | (go_at_call 98;refine HF.out.mono ?_;rintro e w' ⟨rfl,rfl⟩) | (go_at_call 99;refine HP.out.mono ?_;rintro e w' ⟨rfl,k,rfl⟩))
  go_quiet (fail)
  go_wp2_with (go_at_call 100;refine (HT.out _ ?_).mono ?_;(exact (((Kep.refl non _).drewN _)));rintro e w1 ⟨rfl,S1⟩)
  obtain ⟨q,hb,hob,T1,G1,H1,h60⟩:=HQ.out
  have q1:at3 (oneM m' h g s o' z (min o'.q z.q)) h g s:=⟨by rw [OD.out.2.2];exact q.1,by rw [OD.out.2.1];exact q.2.1,q.2.2⟩
  have lg:L.gb h<w1.heap.size:=by rw [← HX.out.2.2.1];exact (S1.R.la h g q1.1 q1.2.1).lt
  refine (HNt.out _ (S1.later ((Kep.refl non _).alloc _))).mono ?_
  rintro e w2 ⟨rfl,S2,k2⟩
  have b2:=(k2.block w1.heap.size (by simp) (fun f=>by omega)).trans (heap_alloc_new w1 _)
  obtain ⟨t0,t1,t2,t3,t4,t5⟩:=(TrSt.mk S2 b2).cells
  rw [HTP.out.1,HTP.out.2] at S2
  have TR:=hide S2.tr
  have HS2:=hide S2
  have lt2:w1.heap.size<w2.heap.size:=(Array.getElem?_eq_some_iff.1 b2).1
  have gr:=T1
  clear S2 S1 k2 b2 HT HNt q hb hob T1 G1 H1 h60 q1 z1 o1 gbl lg gr
  go_wp2_with (at_builtin;refine wpList_append_lies _ rfl _ _ _ rfl 0 67 i0 _ 6 48 Tryz.underlying51 hi0 hz0 hz1 hz2 rfl (by omega) _ ts.length (tdCells ts) rfl (by exact TR.out.alloc _) ⟨w2.heap.size,0,none⟩ 1 1 (Td.cells td) rfl rfl (by exact news_of_last' #[_,_,_,_,_,_] 67 (by simp)) (Td.oneCell' _) (by omega) (by simp only [maxLen];omega) (by omega) (by simp) (w2.heap.size+1) (by simp) ?_)
  intro gg cap w3 hown3 hgrow3 hat3 hlt3
  obtain ⟨q,hb,hob,T1,G1,H1,h60⟩:=HQ.out
  have q1:at3 (noteM (oneM m' h g s o' z (min o'.q z.q)) h g z.p (min o'.q z.q)) h g s:=⟨by show h<(oneM m' h g s o' z (min o'.q z.q)).H;rw [OD.out.2.2];exact q.1,by show g<(oneM m' h g s o' z (min o'.q z.q)).G;rw [OD.out.2.1];exact q.2.1,q.2.2⟩
  have T1':1≤(noteM (oneM m' h g s o' z (min o'.q z.q)) h g z.p (min o'.q z.q)).T:=by show 1≤(oneM m' h g s o' z (min o'.q z.q)).T;rw [OD.out.1];exact T1
  have G1':1≤(noteM (oneM m' h g s o' z (min o'.q z.q)) h g z.p (min o'.q z.q)).G:=by show 1≤(oneM m' h g s o' z (min o'.q z.q)).G;rw [OD.out.2.1];exact G1
  have H1':1≤(noteM (oneM m' h g s o' z (min o'.q z.q)) h g z.p (min o'.q z.q)).H:=by show 1≤(oneM m' h g s o' z (min o'.q z.q)).H;rw [OD.out.2.2];exact H1
  have hb3:=mo_bk0 (o:=o') (n:=min o'.q z.q) q.2.2 hb z.p (min o'.q z.q)
  have S3:=(HS2.out.later ((Kep.refl non _).alloc _)).app (ts':=ts ++ [td]) (tv':=.slice (some ⟨gg,0,none⟩) (ts.length+1) cap) hgrow3 (by simpa [tdCells_append,tdCells] using hown3) T1' G1' (fun b hb=>by
    have:gg=b:=by simpa [Value.ownBlock] using hb
    subst this
    rcases hat3 with f | f
    · exact .inl f
    · exact .inr (by simp;omega))
  have c6:=(S3.R.oc h g s 0 y { z with q:=z.q - min o'.q z.q } q1 (by rw [hob];rfl) (by rw [hb3];rfl) 6 _ rfl).cell
  have e6:((z.q - min o'.q z.q) == 0)=true:=by have:=H00.out;simp;omega
  have HR:=hide (remove_ms S3 T1' G1' H1' q1 (by rw [hb3];rw [hb] at h60;simpa using h60) hb3 hob)
  rw [HX.out.2.1] at HR
  clear S3 T1' G1' H1' hb3 q hb hob T1 G1 H1 h60 q1 hgrow3 hown3 hat3 HS2 TR HQ
  go_wp2_with (go_at_call 102;refine HR.out.mono ?_;rintro e w4 ⟨rfl,v,S4⟩)
  exact HE.out _ _ _ _ ⟨_,_,_,_,_,_,_,_,_,_,_,_,_,_,_,_,_,_,_,_,_,_,_,_,_,_,_,_,_,_,_,_,_,_,_,_,_,_,_,_,_,_,_,_,_,_,_,_,_,_,_,_,_,_,_,_,_,_,_,_,_,_,_,_,_,_,_,_,_,rfl⟩ S4

set_option maxHeartbeats 4000000 in
set_option maxRecDepth 1000000 in
theorem pass_left {h g s:Nat} {w:World} {L:PL} {m:Mt} {xb:Nat} {N:Int} {I:Mt→Od→Prop} {M:Mt × Od × List Td} {L':PL} {m':Mt} {o':Od} {tv:Value} {ts:List Td} {W:World} (run:Run h g s N I) (H:MHead h g s w L m xb I M L' m' o' tv ts W) {z:Od} {r:List Od} (hb:m'.bk h g s=z :: r) (h60:(m'.bk h g s).length≤1000000) (hts:ts.length≤1000000) (hq0:0<o'.q) (hpf:pfits o' z=true) (hzt:z.t≠o'.t) (h0:z.q - min o'.q z.q≠0) {Q:Exit→Act→World→Prop} (hN:∀ a W' L'' tv',MFr (.pointer (some ⟨L.x,0,none⟩)) (.pointer (some ⟨xb,0,none⟩)) (.pointer (some ⟨L.gb h,g * 5,none⟩)) (.pointer (some ⟨L.qb h g s,0,none⟩)) tv' a→MHead h g s w L m xb I M L'' (noteM (oneM m' h g s o' z (min o'.q z.q)) h g z.p (min o'.q z.q)) { o' with q:=o'.q - min o'.q z.q } tv' (ts ++ [oneT m' h o' z (min o'.q z.q)]) W'→Q .normal a W') (u2 u3 u4 u8 u9 u10 u11 u12 u13 u14 u15 u16 u17 u18 u19 u20 u21 u22 u23 u24 u25 u26 u27 u28 u29 u30 u31 u32 u33 u34 u35 u36 u37 u38 u39 u40 u41 u42 u43 u44 u45 u46 u47 u48 u49 u50 u51 u52 u53 u54 u55 u56 u57 u58 u59 u60 u61 u62 u63 u64 u65 u66 u67 u68 u69 u70 u71 u72 u73:Value) :
    Code.wp Tryz.prog (behindLabel ((Tryz.f44.body.bind scopeIn).getD .skip)) Q ⟨#[.pointer (some ⟨L.x,0,none⟩),.pointer (some ⟨xb,0,none⟩),u2,u3,u4,.pointer (some ⟨L.gb h,g * 5,none⟩),.pointer (some ⟨L.qb h g s,0,none⟩),tv,u8,u9,u10,u11,u12,u13,u14,u15,u16,u17,u18,u19,u20,u21,u22,u23,u24,u25,u26,u27,u28,u29,u30,u31,u32,u33,u34,u35,u36,u37,u38,u39,u40,u41,u42,u43,u44,u45,u46,u47,u48,u49,u50,u51,u52,u53,u54,u55,u56,u57,u58,u59,u60,u61,u62,u63,u64,u65,u66,u67,u68,u69,u70,u71,u72,u73],[]⟩ W:=by
  obtain ⟨q,eh,eg,es,ht,hp,hq⟩:=run.bd _ _ H.I
  have ok:=run.ok _ _ H.I
  have zo:=ok.od h g s z q.1 q.2.1 q.2.2 (by rw [hb];exact List.mem_cons_self)
  obtain ⟨y,ys,hob⟩:=H.S.R.head q hb
  have HF:=hide (first_q1 H.S.R q hob)
  rw [H.S.ex.2.1] at HF
  have hz:OdAt W y z:=fun j v hv=>H.S.R.oc h g s 0 y z q (by rw [hob];rfl) (by rw [hb];rfl) j v hv
  have HP:=hide (pricesFit_any W xb y o' z H.S.c hz)
  rw [hpf] at HP
  obtain ⟨td,htd⟩ : ∃ td,td=oneT m' h o' z (min o'.q z.q):=⟨_,rfl⟩
  have HT:=hide (fun W1 (k:Kep non W W1)=>trade_ms (H.later k).S ok q hb hob eh eg es ht hp (by omega) hzt)
  rw [H.S.ex.1,← htd] at HT
  have zq:=zo.q
  have zp:=zo.p
  have HD:=hide htd
  have hn:0≤min o'.q z.q∧min o'.q z.q≤10000:=by omega
  have od:=oneM_dims m' h g s o' z (min o'.q z.q)
  have HNt:=hide (fun W1 (S:MS w L m xb L' (oneM m' h g s o' z (min o'.q z.q)) { o' with q:=o'.q - min o'.q z.q } tv ts W1) =>
    note_ms2 S (h:=h) (g:=g) (by rw [od.2.2];exact q.1) (by rw [od.2.1];exact q.2.1) (by rw [(one_rest (min o'.q z.q)).2.2.2.2.2.1];exact (run.st _ _ H.I).1) (by rw [(one_rest (min o'.q z.q)).2.2.2.2.2.2.1];exact (run.st _ _ H.I).2) td (by rw [htd];exact ⟨by have:=zp.1;show 0≤z.p;omega,zp.2⟩) (by rw [htd];exact hn))
  rw [H.S.ex.2.2.1] at HNt
  simp only [Td.agg] at HT HNt
  have HE:=hide (fun a W' L'' tv' (f:MFr (.pointer (some ⟨L.x,0,none⟩)) (.pointer (some ⟨xb,0,none⟩)) (.pointer (some ⟨L.gb h,g * 5,none⟩)) (.pointer (some ⟨L.qb h g s,0,none⟩)) tv' a) (S:MS w L m xb L'' (noteM (oneM m' h g s o' z (min o'.q z.q)) h g z.p (min o'.q z.q)) { o' with q:=o'.q - min o'.q z.q } tv' (ts ++ [td]) W')=>hN a W' L'' tv' f (by rw [htd] at S;exact H.left run hb hq0 hpf hzt h0 S))
  rw [htd] at HE
  rw [← htd] at HE
  have z1:=(hz 1 _ rfl).cell
  have o1:=(H.S.c 1 _ rfl).cell
  have e1:(z.t == o'.t)=false:=by simp [hzt]
  have gbl:L.gb h<W.heap.size:=by rw [← H.S.ex.2.2.1];exact H.S.R.lt ok.T1 ok.G1 _ ⟨.gb h,by simp [PL.F,q.1]⟩
  have tdp:td.p=z.p∧td.q=min o'.q z.q:=by rw [htd];exact ⟨rfl,rfl⟩
  have HTP:=hide tdp
  have HQ:=hide (And.intro q (And.intro hb (And.intro hob (And.intro ok.T1 (And.intro ok.G1 (And.intro ok.H1 h60))))))
  have HX:=hide H.S.ex
  have H00:=hide h0
  have OD:=hide od
  obtain ⟨i0,hi0,hz0,hz1,hz2⟩:=info_parts infoTrade
  clear hN H run hz hb hob hpf hzt ok od zo eh eg es ht hp hq hn zq zp q tdp h60 htd h0 hq0
  conv=>arg 2;whnf
  go_wp2_with (first | (go_at_call 98;refine HF.out.mono ?_;rintro e w' ⟨rfl,rfl⟩) | (go_at_call 99;refine HP.out.mono ?_;rintro e w' ⟨rfl,k,rfl⟩))
  go_quiet (fail)
  go_wp2_with (go_at_call 100;refine (HT.out _ ?_).mono ?_;(exact (((Kep.refl non _).drewN _)));rintro e w1 ⟨rfl,S1⟩)
  obtain ⟨q,hb,hob,T1,G1,H1,h60⟩:=HQ.out
  have q1:at3 (oneM m' h g s o' z (min o'.q z.q)) h g s:=⟨by rw [OD.out.2.2];exact q.1,by rw [OD.out.2.1];exact q.2.1,q.2.2⟩
  have lg:L.gb h<w1.heap.size:=by rw [← HX.out.2.2.1];exact (S1.R.la h g q1.1 q1.2.1).lt
  refine (HNt.out _ (S1.later ((Kep.refl non _).alloc _))).mono ?_
  rintro e w2 ⟨rfl,S2,k2⟩
  have b2:=(k2.block w1.heap.size (by simp) (fun f=>by omega)).trans (heap_alloc_new w1 _)
  obtain ⟨t0,t1,t2,t3,t4,t5⟩:=(TrSt.mk S2 b2).cells
  rw [HTP.out.1,HTP.out.2] at S2
  have TR:=hide S2.tr
  have HS2:=hide S2
  have lt2:w1.heap.size<w2.heap.size:=(Array.getElem?_eq_some_iff.1 b2).1
  have gr:=T1
  clear S2 S1 k2 b2 HT HNt q hb hob T1 G1 H1 h60 q1 z1 o1 gbl lg gr
  go_wp2_with (at_builtin;refine wpList_append_lies _ rfl _ _ _ rfl 0 67 i0 _ 6 48 Tryz.underlying51 hi0 hz0 hz1 hz2 rfl (by omega) _ ts.length (tdCells ts) rfl (by exact TR.out.alloc _) ⟨w2.heap.size,0,none⟩ 1 1 (Td.cells td) rfl rfl (by exact news_of_last' #[_,_,_,_,_,_] 67 (by simp)) (Td.oneCell' _) (by omega) (by simp only [maxLen];omega) (by omega) (by simp) (w2.heap.size+1) (by simp) ?_)
  intro gg cap w3 hown3 hgrow3 hat3 hlt3
  obtain ⟨q,hb,hob,T1,G1,H1,h60⟩:=HQ.out
  have q1:at3 (noteM (oneM m' h g s o' z (min o'.q z.q)) h g z.p (min o'.q z.q)) h g s:=⟨by show h<(oneM m' h g s o' z (min o'.q z.q)).H;rw [OD.out.2.2];exact q.1,by show g<(oneM m' h g s o' z (min o'.q z.q)).G;rw [OD.out.2.1];exact q.2.1,q.2.2⟩
  have T1':1≤(noteM (oneM m' h g s o' z (min o'.q z.q)) h g z.p (min o'.q z.q)).T:=by show 1≤(oneM m' h g s o' z (min o'.q z.q)).T;rw [OD.out.1];exact T1
  have G1':1≤(noteM (oneM m' h g s o' z (min o'.q z.q)) h g z.p (min o'.q z.q)).G:=by show 1≤(oneM m' h g s o' z (min o'.q z.q)).G;rw [OD.out.2.1];exact G1
  have H1':1≤(noteM (oneM m' h g s o' z (min o'.q z.q)) h g z.p (min o'.q z.q)).H:=by show 1≤(oneM m' h g s o' z (min o'.q z.q)).H;rw [OD.out.2.2];exact H1
  have hb3:=mo_bk0 (o:=o') (n:=min o'.q z.q) q.2.2 hb z.p (min o'.q z.q)
  have S3:=(HS2.out.later ((Kep.refl non _).alloc _)).app (ts':=ts ++ [td]) (tv':=.slice (some ⟨gg,0,none⟩) (ts.length+1) cap) hgrow3 (by simpa [tdCells_append,tdCells] using hown3) T1' G1' (fun b hb=>by
    have:gg=b:=by simpa [Value.ownBlock] using hb
    subst this
    rcases hat3 with f | f
    · exact .inl f
    · exact .inr (by simp;omega))
  have c6:=(S3.R.oc h g s 0 y { z with q:=z.q - min o'.q z.q } q1 (by rw [hob];rfl) (by rw [hb3];rfl) 6 _ rfl).cell
  have e6:((z.q - min o'.q z.q) == 0)=false:=by have:=H00.out;simp;omega
  have HS3:=hide S3
  clear S3 T1' G1' H1' hb3 q hb hob T1 G1 H1 h60 q1 hgrow3 hown3 hat3 HS2 TR HQ
  go_wp2
  exact HE.out _ _ _ _ ⟨_,_,_,_,_,_,_,_,_,_,_,_,_,_,_,_,_,_,_,_,_,_,_,_,_,_,_,_,_,_,_,_,_,_,_,_,_,_,_,_,_,_,_,_,_,_,_,_,_,_,_,_,_,_,_,_,_,_,_,_,_,_,_,_,_,_,_,_,_,rfl⟩ HS3.out
end

end Go.Proofs.YtcfoobhihhndjaaGreat
