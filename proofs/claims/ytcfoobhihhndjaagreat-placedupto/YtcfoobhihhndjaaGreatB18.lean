
import Derived.Test.YtcfoobhihhndjaaGreatB16
import Derived.Test.YtcfoobhihhndjaaGreatB17
namespace Go.Proofs.YtcfoobhihhndjaaGreat

section
open Go.RowKit Go.Sort

def MJ (h g s:Nat) (w:World) (L:PL) (m:Mt) (xb:Nat) (I:Mt→Od→Prop) (M:Mt × Od × List Td) (b:Nat) (a:Act) (W:World):Prop :=
  ∃ L' m' o' tv ts,MFr (.pointer (some ⟨L.x,0,none⟩)) (.pointer (some ⟨xb,0,none⟩)) (.pointer (some ⟨L.gb h,g * 5,none⟩)) (.pointer (some ⟨L.qb h g s,0,none⟩)) tv a∧MHead h g s w L m xb I M L' m' o' tv ts W∧0<o'.q∧(m'.bk h g s).length≤b
def MI (h g s:Nat) (w:World) (L:PL) (m:Mt) (xb:Nat) (I:Mt→Od→Prop) (M:Mt × Od × List Td) (a:Act) (W:World):Prop :=
  ∃ L' m' o' tv ts,MFr (.pointer (some ⟨L.x,0,none⟩)) (.pointer (some ⟨xb,0,none⟩)) (.pointer (some ⟨L.gb h,g * 5,none⟩)) (.pointer (some ⟨L.qb h g s,0,none⟩)) tv a∧MHead h g s w L m xb I M L' m' o' tv ts W
def MX (h g s:Nat) (w:World) (L:PL) (m:Mt) (xb:Nat) (M:Mt × Od × List Td) (a:Act) (W:World):Prop :=
  ∃ L' tv,MFr (.pointer (some ⟨L.x,0,none⟩)) (.pointer (some ⟨xb,0,none⟩)) (.pointer (some ⟨L.gb h,g * 5,none⟩)) (.pointer (some ⟨L.qb h g s,0,none⟩)) tv a∧MS w L m xb L' M.1 M.2.1 tv M.2.2 W
def Mq (L:PL) (h g s:Nat) (W:World):Nat:=qlen (W.cell? ⟨L.qb h g s,1,none⟩)
def Mmu (L:PL) (h g s xb:Nat) (W:World):Nat:=Mq L h g s W+posN (W.cell? ⟨xb,6,none⟩)

theorem MHead.ts_le {h g s:Nat} {w:World} {L:PL} {m:Mt} {xb:Nat} {I:Mt→Od→Prop} {M:Mt × Od × List Td} {L':PL} {m':Mt} {o':Od} {tv:Value} {ts:List Td} {W:World} (H:MHead h g s w L m xb I M L' m' o' tv ts W):ts.length≤M.2.2.length:=by
  obtain ⟨rest,_,h2⟩:=H.C
  rw [h2]
  simp

theorem len_bk {m:Mt} {h g s:Nat} (q:at3 m h g s):(m.bk h g s).length≤m.all.length:=by
  have h1:=all_setBk m q []
  simp only [List.length_nil] at h1
  omega

set_option maxRecDepth 1000000 in
theorem pass_any {h g s:Nat} {w:World} {L:PL} {m:Mt} {xb:Nat} {N:Int} {I:Mt→Od→Prop} {M:Mt × Od × List Td} (run:Run h g s N I) (hM:M.2.2.length≤1000000) {b:Nat} {Q:Exit→Act→World→Prop} {a:Act} {W:World} (hJ:MJ h g s w L m xb I M b a W)
    (hX:∀ a' W',MX h g s w L m xb M a' W'→Q (.exit 0) a' W') (hI:∀ a' W',MI h g s w L m xb I M a' W'→Mmu L h g s xb W'<b+1→Q .normal a' W') :
    Code.wp Tryz.prog (behindLabel ((Tryz.f44.body.bind scopeIn).getD .skip)) (Exit.jump 0 (fun a' W'=>MJ h g s w L m xb I M b a' W'∧Mq L h g s W'<Mq L h g s W) Q) a W:=by
  obtain ⟨L',m',o',tv,ts,hf,H,hq0,hlen⟩:=hJ
  have q:=(run.bd _ _ H.I).1
  have hts:=H.ts_le
  have ok:=run.ok _ _ H.I
  have h60:(m'.bk h g s).length≤60:=Nat.le_trans (len_bk q) ok.a60
  have hql:=H.qlen q
  obtain ⟨u2,hf⟩:=hf
  obtain ⟨u3,hf⟩:=hf
  obtain ⟨u4,hf⟩:=hf
  obtain ⟨u8,hf⟩:=hf
  obtain ⟨u9,hf⟩:=hf
  obtain ⟨u10,hf⟩:=hf
  obtain ⟨u11,hf⟩:=hf
  obtain ⟨u12,hf⟩:=hf
  obtain ⟨u13,hf⟩:=hf
  obtain ⟨u14,hf⟩:=hf
  obtain ⟨u15,hf⟩:=hf
  obtain ⟨u16,hf⟩:=hf
  obtain ⟨u17,hf⟩:=hf
  obtain ⟨u18,hf⟩:=hf
  obtain ⟨u19,hf⟩:=hf
  obtain ⟨u20,hf⟩:=hf
  obtain ⟨u21,hf⟩:=hf
  obtain ⟨u22,hf⟩:=hf
  obtain ⟨u23,hf⟩:=hf
  obtain ⟨u24,hf⟩:=hf
  obtain ⟨u25,hf⟩:=hf
  obtain ⟨u26,hf⟩:=hf
  obtain ⟨u27,hf⟩:=hf
  obtain ⟨u28,hf⟩:=hf
  obtain ⟨u29,hf⟩:=hf
  obtain ⟨u30,hf⟩:=hf
  obtain ⟨u31,hf⟩:=hf
  obtain ⟨u32,hf⟩:=hf
  obtain ⟨u33,hf⟩:=hf
  obtain ⟨u34,hf⟩:=hf
  obtain ⟨u35,hf⟩:=hf
  obtain ⟨u36,hf⟩:=hf
  obtain ⟨u37,hf⟩:=hf
  obtain ⟨u38,hf⟩:=hf
  obtain ⟨u39,hf⟩:=hf
  obtain ⟨u40,hf⟩:=hf
  obtain ⟨u41,hf⟩:=hf
  obtain ⟨u42,hf⟩:=hf
  obtain ⟨u43,hf⟩:=hf
  obtain ⟨u44,hf⟩:=hf
  obtain ⟨u45,hf⟩:=hf
  obtain ⟨u46,hf⟩:=hf
  obtain ⟨u47,hf⟩:=hf
  obtain ⟨u48,hf⟩:=hf
  obtain ⟨u49,hf⟩:=hf
  obtain ⟨u50,hf⟩:=hf
  obtain ⟨u51,hf⟩:=hf
  obtain ⟨u52,hf⟩:=hf
  obtain ⟨u53,hf⟩:=hf
  obtain ⟨u54,hf⟩:=hf
  obtain ⟨u55,hf⟩:=hf
  obtain ⟨u56,hf⟩:=hf
  obtain ⟨u57,hf⟩:=hf
  obtain ⟨u58,hf⟩:=hf
  obtain ⟨u59,hf⟩:=hf
  obtain ⟨u60,hf⟩:=hf
  obtain ⟨u61,hf⟩:=hf
  obtain ⟨u62,hf⟩:=hf
  obtain ⟨u63,hf⟩:=hf
  obtain ⟨u64,hf⟩:=hf
  obtain ⟨u65,hf⟩:=hf
  obtain ⟨u66,hf⟩:=hf
  obtain ⟨u67,hf⟩:=hf
  obtain ⟨u68,hf⟩:=hf
  obtain ⟨u69,hf⟩:=hf
  obtain ⟨u70,hf⟩:=hf
  obtain ⟨u71,hf⟩:=hf
  obtain ⟨u72,hf⟩:=hf
  obtain ⟨u73,hf⟩:=hf
  subst hf
  cases hb:m'.bk h g s with
  | nil =>
    refine pass_none run H hb (fun a W' f S=>?_) u2 u3 u4 u8 u9 u10 u11 u12 u13 u14 u15 u16 u17 u18 u19 u20 u21 u22 u23 u24 u25 u26 u27 u28 u29 u30 u31 u32 u33 u34 u35 u36 u37 u38 u39 u40 u41 u42 u43 u44 u45 u46 u47 u48 u49 u50 u51 u52 u53 u54 u55 u56 u57 u58 u59 u60 u61 u62 u63 u64 u65 u66 u67 u68 u69 u70 u71 u72 u73
    exact hX a W' ⟨_,_,f,S⟩
  | cons z r =>
    cases hpf:pfits o' z with
    | false =>
      refine pass_far run H hb hq0 hpf (fun a W' f S=>?_) u2 u3 u4 u8 u9 u10 u11 u12 u13 u14 u15 u16 u17 u18 u19 u20 u21 u22 u23 u24 u25 u26 u27 u28 u29 u30 u31 u32 u33 u34 u35 u36 u37 u38 u39 u40 u41 u42 u43 u44 u45 u46 u47 u48 u49 u50 u51 u52 u53 u54 u55 u56 u57 u58 u59 u60 u61 u62 u63 u64 u65 u66 u67 u68 u69 u70 u71 u72 u73
      exact hX a W' ⟨_,_,f,S⟩
    | true =>
      rw [hb] at hlen hql
      simp only [List.length_cons] at hlen hql
      by_cases hzt:z.t=o'.t
      · refine pass_own run H hb (by omega) hq0 hpf hzt (fun a W' L'' f S=>⟨rfl,⟨_,_,_,_,_,f,S,hq0,?_⟩,?_⟩) u2 u3 u4 u8 u9 u10 u11 u12 u13 u14 u15 u16 u17 u18 u19 u20 u21 u22 u23 u24 u25 u26 u27 u28 u29 u30 u31 u32 u33 u34 u35 u36 u37 u38 u39 u40 u41 u42 u43 u44 u45 u46 u47 u48 u49 u50 u51 u52 u53 u54 u55 u56 u57 u58 u59 u60 u61 u62 u63 u64 u65 u66 u67 u68 u69 u70 u71 u72 u73
        · rw [bk_release,bk_set];omega
        · have e:=S.qlen (by have:=releaseM_dims (m'.setBk h g s r) z.t.toNat h g s z;exact ⟨by rw [this.2.2];exact q.1,by rw [this.2.1];exact q.2.1,q.2.2⟩)
          rw [bk_release,bk_set] at e
          show qlen _<qlen _
          rw [e,hql]
          omega
      · have od:=oneM_dims m' h g s o' z (min o'.q z.q)
        by_cases h0:z.q - min o'.q z.q=0
        · refine pass_trade run H hb (by omega) (by omega) hq0 hpf hzt h0 (fun a W' L'' tv' f S=>?_) u2 u3 u4 u8 u9 u10 u11 u12 u13 u14 u15 u16 u17 u18 u19 u20 u21 u22 u23 u24 u25 u26 u27 u28 u29 u30 u31 u32 u33 u34 u35 u36 u37 u38 u39 u40 u41 u42 u43 u44 u45 u46 u47 u48 u49 u50 u51 u52 u53 u54 u55 u56 u57 u58 u59 u60 u61 u62 u63 u64 u65 u66 u67 u68 u69 u70 u71 u72 u73
          refine hI _ _ ⟨_,_,_,_,_,f,S⟩ ?_
          have e:=S.qlen ⟨by show h<(oneM m' h g s o' z (min o'.q z.q)).H;rw [od.2.2];exact q.1,by show g<(oneM m' h g s o' z (min o'.q z.q)).G;rw [od.2.1];exact q.2.1,q.2.2⟩
          have e2:=S.posN
          rw [bk_set] at e
          show qlen _+posN _<_
          rw [e,e2]
          split <;> omega
        · refine pass_left run H hb (by omega) (by omega) hq0 hpf hzt h0 (fun a W' L'' tv' f S=>?_) u2 u3 u4 u8 u9 u10 u11 u12 u13 u14 u15 u16 u17 u18 u19 u20 u21 u22 u23 u24 u25 u26 u27 u28 u29 u30 u31 u32 u33 u34 u35 u36 u37 u38 u39 u40 u41 u42 u43 u44 u45 u46 u47 u48 u49 u50 u51 u52 u53 u54 u55 u56 u57 u58 u59 u60 u61 u62 u63 u64 u65 u66 u67 u68 u69 u70 u71 u72 u73
          refine hI _ _ ⟨_,_,_,_,_,f,S⟩ ?_
          have e:=S.qlen ⟨by show h<(oneM m' h g s o' z (min o'.q z.q)).H;rw [od.2.2];exact q.1,by show g<(oneM m' h g s o' z (min o'.q z.q)).G;rw [od.2.1];exact q.2.1,q.2.2⟩
          have e2:=S.posN
          rw [mo_bk0 q.2.2 hb] at e
          show qlen _+posN _<_
          rw [e,e2,if_neg (by show ¬ 0<o'.q - min o'.q z.q;omega)]
          simp only [List.length_cons]
          omega

set_option maxHeartbeats 4000000 in
set_option maxRecDepth 1000000 in
theorem round_any {h g s:Nat} {w:World} {L:PL} {m:Mt} {xb:Nat} {N:Int} {I:Mt→Od→Prop} {M:Mt × Od × List Td} (run:Run h g s N I) (hM:M.2.2.length≤1000000) {Q:Exit→Act→World→Prop} {a:Act} {W:World} (hI:MI h g s w L m xb I M a W)
    (hX:∀ a' W',MX h g s w L m xb M a' W'→Q (.exit 0) a' W') :
    Code.wp Tryz.prog ((Tryz.f44.body.bind loopIn).getD .skip) (Exit.then (fun a' W'=>MI h g s w L m xb I M a' W'∧Mmu L h g s xb W'<Mmu L h g s xb W) Q) a W:=by
  obtain ⟨L',m',o',tv,ts,hf,H⟩:=hI
  have q:=(run.bd _ _ H.I).1
  have hql:=H.qlen q
  have hps:=H.posN
  have o6:=(H.S.c 6 _ rfl).cell
  have HR:=hide run
  have HM:=hide hM
  have HX:=hide hX
  obtain ⟨u2,hf⟩:=hf
  obtain ⟨u3,hf⟩:=hf
  obtain ⟨u4,hf⟩:=hf
  obtain ⟨u8,hf⟩:=hf
  obtain ⟨u9,hf⟩:=hf
  obtain ⟨u10,hf⟩:=hf
  obtain ⟨u11,hf⟩:=hf
  obtain ⟨u12,hf⟩:=hf
  obtain ⟨u13,hf⟩:=hf
  obtain ⟨u14,hf⟩:=hf
  obtain ⟨u15,hf⟩:=hf
  obtain ⟨u16,hf⟩:=hf
  obtain ⟨u17,hf⟩:=hf
  obtain ⟨u18,hf⟩:=hf
  obtain ⟨u19,hf⟩:=hf
  obtain ⟨u20,hf⟩:=hf
  obtain ⟨u21,hf⟩:=hf
  obtain ⟨u22,hf⟩:=hf
  obtain ⟨u23,hf⟩:=hf
  obtain ⟨u24,hf⟩:=hf
  obtain ⟨u25,hf⟩:=hf
  obtain ⟨u26,hf⟩:=hf
  obtain ⟨u27,hf⟩:=hf
  obtain ⟨u28,hf⟩:=hf
  obtain ⟨u29,hf⟩:=hf
  obtain ⟨u30,hf⟩:=hf
  obtain ⟨u31,hf⟩:=hf
  obtain ⟨u32,hf⟩:=hf
  obtain ⟨u33,hf⟩:=hf
  obtain ⟨u34,hf⟩:=hf
  obtain ⟨u35,hf⟩:=hf
  obtain ⟨u36,hf⟩:=hf
  obtain ⟨u37,hf⟩:=hf
  obtain ⟨u38,hf⟩:=hf
  obtain ⟨u39,hf⟩:=hf
  obtain ⟨u40,hf⟩:=hf
  obtain ⟨u41,hf⟩:=hf
  obtain ⟨u42,hf⟩:=hf
  obtain ⟨u43,hf⟩:=hf
  obtain ⟨u44,hf⟩:=hf
  obtain ⟨u45,hf⟩:=hf
  obtain ⟨u46,hf⟩:=hf
  obtain ⟨u47,hf⟩:=hf
  obtain ⟨u48,hf⟩:=hf
  obtain ⟨u49,hf⟩:=hf
  obtain ⟨u50,hf⟩:=hf
  obtain ⟨u51,hf⟩:=hf
  obtain ⟨u52,hf⟩:=hf
  obtain ⟨u53,hf⟩:=hf
  obtain ⟨u54,hf⟩:=hf
  obtain ⟨u55,hf⟩:=hf
  obtain ⟨u56,hf⟩:=hf
  obtain ⟨u57,hf⟩:=hf
  obtain ⟨u58,hf⟩:=hf
  obtain ⟨u59,hf⟩:=hf
  obtain ⟨u60,hf⟩:=hf
  obtain ⟨u61,hf⟩:=hf
  obtain ⟨u62,hf⟩:=hf
  obtain ⟨u63,hf⟩:=hf
  obtain ⟨u64,hf⟩:=hf
  obtain ⟨u65,hf⟩:=hf
  obtain ⟨u66,hf⟩:=hf
  obtain ⟨u67,hf⟩:=hf
  obtain ⟨u68,hf⟩:=hf
  obtain ⟨u69,hf⟩:=hf
  obtain ⟨u70,hf⟩:=hf
  obtain ⟨u71,hf⟩:=hf
  obtain ⟨u72,hf⟩:=hf
  obtain ⟨u73,hf⟩:=hf
  subst hf
  by_cases h0:0<o'.q
  · have HE:=hide (show Mmu L h g s xb W=(m'.bk h g s).length+1 by show qlen _+posN _=_;rw [hql,hps,if_pos h0])
    have HJ:=hide (fun a W' (f:MFr (.pointer (some ⟨L.x,0,none⟩)) (.pointer (some ⟨xb,0,none⟩)) (.pointer (some ⟨L.gb h,g * 5,none⟩)) (.pointer (some ⟨L.qb h g s,0,none⟩)) tv a) (e:W'=W)=>show MJ h g s w L m xb I M (m'.bk h g s).length a W' from ⟨L',m',o',tv,ts,f,by rw [e];exact H,h0,Nat.le_refl _⟩)
    clear hql hps H q hM hX run
    conv=>arg 2;whnf
    go_wp2
    refine wp_scope_label 0 (MJ h g s w L m xb I M (m'.bk h g s).length) (fun _ W=>Mq L h g s W) ?_ (fun a W' hJ=>?_)
    · exact HJ.out _ _ ⟨_,_,_,_,_,_,_,_,_,_,_,_,_,_,_,_,_,_,_,_,_,_,_,_,_,_,_,_,_,_,_,_,_,_,_,_,_,_,_,_,_,_,_,_,_,_,_,_,_,_,_,_,_,_,_,_,_,_,_,_,_,_,_,_,_,_,_,_,_,rfl⟩ rfl
    · refine pass_any HR.out HM.out hJ (fun a' W'' x=>?_) (fun a' W'' i lt=>?_)
      · exact HX.out _ _ x
      · exact ⟨i,by rw [HE.out];exact lt⟩
  · have HE:=hide (fun a W' (f:MFr (.pointer (some ⟨L.x,0,none⟩)) (.pointer (some ⟨xb,0,none⟩)) (.pointer (some ⟨L.gb h,g * 5,none⟩)) (.pointer (some ⟨L.qb h g s,0,none⟩)) tv a) (e:W'=W)=>hX a W' ⟨L',tv,f,by rw [e];exact H.fin (matchM_done _ (by omega))⟩)
    clear hql hps H q hM hX run
    conv=>arg 2;whnf
    go_wp2
    exact HE.out _ _ ⟨_,_,_,_,_,_,_,_,_,_,_,_,_,_,_,_,_,_,_,_,_,_,_,_,_,_,_,_,_,_,_,_,_,_,_,_,_,_,_,_,_,_,_,_,_,_,_,_,_,_,_,_,_,_,_,_,_,_,_,_,_,_,_,_,_,_,_,_,_,rfl⟩ rfl

theorem matchM_len {h g s:Nat}:∀ (l:List Od) (m:Mt) (o:Od),(matchM h g s l m o).2.2.length≤l.length
  | [],m,o=>by simp [matchM]
  | z :: r,m,o=>by
    rw [matchM]
    split
    · simp
    · split
      · simp
      · split
        · exact Nat.le_trans (matchM_len r _ _) (by simp)
        · split
          · have:=matchM_len (h:=h) (g:=g) (s:=s) r ((noteM (oneM m h g s o z (min o.q z.q)) h g z.p (min o.q z.q)).setBk h g s r) { o with q:=o.q - min o.q z.q }
            simp only [List.length_cons]
            omega
          · simp

set_option maxHeartbeats 4000000 in
set_option maxRecDepth 1000000 in
theorem match_any (w:World) (L:PL) (m:Mt) (N:Int) {I:Mt→Od→Prop} {h g s:Nat} (run:Run h g s N I) (R:PRep w L m) (xb:Nat) (o:Od) (hI:I m o) (hx:OdAt w xb o) (hxp:Plain w xb) (hxS:¬ L.S m xb) (hxr:xb≠L.rb) (hxb:xb≠L.bb) :
    Calls Tryz.prog 44 #[.pointer (some ⟨L.x,0,none⟩),.pointer (some ⟨xb,0,none⟩)] w fun e w'=>∃ tv L',e = .returned tv∧MS w L m xb L' (matchM h g s (m.bk h g s) m o).1 (matchM h g s (m.bk h g s) m o).2.1 tv (matchM h g s (m.bk h g s) m o).2.2 w':=by
  have ok:=run.ok m o hI
  obtain ⟨q,eh,eg,es,ht,hp,hq⟩:=run.bd m o hI
  have s2:=q.2.2
  have S0:MS w L m xb L m o (.slice none 0 0) [] w:=⟨R,hx,hxp,hxp.lt,hxS,hxr,hxb,R.rblt ok.H1,World.ownsRow_nil _ _ _ _,fun b hb=>by simp [Value.ownBlock] at hb,⟨rfl,rfl,rfl,rfl,rfl,rfl⟩,⟨rfl,rfl,rfl⟩,Kep.refl _ _,fun b hb=>.inl hb⟩
  have hml:=matchM_len (h:=h) (g:=g) (s:=s) (m.bk h g s) m o
  have h60:(m.bk h g s).length≤60:=Nat.le_trans (len_bk q) ok.a60
  generalize hM:matchM h g s (m.bk h g s) m o=M at *
  have H0:MHead h g s w L m xb I M L m o (.slice none 0 0) [] w:=⟨S0,hI,M.2.2,by rw [hM],rfl⟩
  have HR:=hide run
  have HL:=hide (show M.2.2.length≤1000000 by omega)
  have HB:=hide (bookOf_any w L m R xb h g o hx eh eg q.1 q.2.1)
  obtain ⟨si,hsi⟩ : ∃ si,si=otherS s:=⟨_,rfl⟩
  have hos:otherS si=s:=by rw [hsi];unfold otherS;rcases s with _ | _ | s <;> first | rfl | omega
  have HT:=hide (show ∀ W,Calls Tryz.prog 97 #[.int .i64 si] W fun e w'=>e = .returned (.int .i64 s)∧w'=W from fun W=>by have:=other_any si (by rw [hsi];unfold otherS;split <;> omega) W;rwa [hos] at this)
  have o4:=(hx 4 _ rfl).cell
  rw [es,← hsi] at o4
  have cs:=(R.sd h g s q).cell
  have hs2:(s:Int)<2:=by omega
  have HH:=hide (show ∀ W,Kep non w W→MHead h g s w L m xb I M L m o (.slice none 0 0) [] W from fun W k=>⟨H0.S.later k,H0.I,H0.C⟩)
  have HC:=hide (show ∀ W,Kep non w W→W.cell? ⟨xb,4,none⟩=some (.int .i64 si)∧W.cell? ⟨L.gb h,g * 5+s,none⟩=some (.pointer (some ⟨L.qb h g s,0,none⟩)) from fun W k=>⟨k.cell o4 (fun f=>f),k.cell cs (fun f=>f)⟩)
  clear run R hI hx hxp hxS hxr hxb S0 H0 ok eh eg es ht hp hq hM hsi hos o4 cs hml h60
  go_enter Tryz.func44,Tryz.ntmps44
  go_wp2_with (go_at_call 96;refine HB.out.mono ?_;rintro e w' ⟨rfl,k,rfl⟩)
  have HH2:=hide (show ∀ n,MHead h g s w L m xb I M L m o (.slice none 0 0) [] ((w.drewN k).drewN n) from fun n=>HH.out _ (((Kep.refl _ _).drewN k).drewN n))
  obtain ⟨o4,cs⟩:=HC.out _ ((Kep.refl non w).drewN k)
  clear HC HH HB
  generalize w.drewN k=W0 at *
  go_quiet ((go_at_call 97;exact Calls.quiet_of_same (HT.out _)))
  go_wp2
  refine wp_loop (MI h g s w L m xb I M) (fun _ W=>Mmu L h g s xb W) ?_ (fun a W hI=>?_)
  · exact ⟨L,m,o,.slice none 0 0,[],⟨_,_,_,_,_,_,_,_,_,_,_,_,_,_,_,_,_,_,_,_,_,_,_,_,_,_,_,_,_,_,_,_,_,_,_,_,_,_,_,_,_,_,_,_,_,_,_,_,_,_,_,_,_,_,_,_,_,_,_,_,_,_,_,_,_,_,_,_,_,rfl⟩,HH2.out _⟩
  · refine round_any HR.out HL.out hI (fun a' W' x=>?_)
    clear hI
    obtain ⟨L',tv,hf,S⟩:=x
    obtain ⟨u2,hf⟩:=hf
    obtain ⟨u3,hf⟩:=hf
    obtain ⟨u4,hf⟩:=hf
    obtain ⟨u8,hf⟩:=hf
    obtain ⟨u9,hf⟩:=hf
    obtain ⟨u10,hf⟩:=hf
    obtain ⟨u11,hf⟩:=hf
    obtain ⟨u12,hf⟩:=hf
    obtain ⟨u13,hf⟩:=hf
    obtain ⟨u14,hf⟩:=hf
    obtain ⟨u15,hf⟩:=hf
    obtain ⟨u16,hf⟩:=hf
    obtain ⟨u17,hf⟩:=hf
    obtain ⟨u18,hf⟩:=hf
    obtain ⟨u19,hf⟩:=hf
    obtain ⟨u20,hf⟩:=hf
    obtain ⟨u21,hf⟩:=hf
    obtain ⟨u22,hf⟩:=hf
    obtain ⟨u23,hf⟩:=hf
    obtain ⟨u24,hf⟩:=hf
    obtain ⟨u25,hf⟩:=hf
    obtain ⟨u26,hf⟩:=hf
    obtain ⟨u27,hf⟩:=hf
    obtain ⟨u28,hf⟩:=hf
    obtain ⟨u29,hf⟩:=hf
    obtain ⟨u30,hf⟩:=hf
    obtain ⟨u31,hf⟩:=hf
    obtain ⟨u32,hf⟩:=hf
    obtain ⟨u33,hf⟩:=hf
    obtain ⟨u34,hf⟩:=hf
    obtain ⟨u35,hf⟩:=hf
    obtain ⟨u36,hf⟩:=hf
    obtain ⟨u37,hf⟩:=hf
    obtain ⟨u38,hf⟩:=hf
    obtain ⟨u39,hf⟩:=hf
    obtain ⟨u40,hf⟩:=hf
    obtain ⟨u41,hf⟩:=hf
    obtain ⟨u42,hf⟩:=hf
    obtain ⟨u43,hf⟩:=hf
    obtain ⟨u44,hf⟩:=hf
    obtain ⟨u45,hf⟩:=hf
    obtain ⟨u46,hf⟩:=hf
    obtain ⟨u47,hf⟩:=hf
    obtain ⟨u48,hf⟩:=hf
    obtain ⟨u49,hf⟩:=hf
    obtain ⟨u50,hf⟩:=hf
    obtain ⟨u51,hf⟩:=hf
    obtain ⟨u52,hf⟩:=hf
    obtain ⟨u53,hf⟩:=hf
    obtain ⟨u54,hf⟩:=hf
    obtain ⟨u55,hf⟩:=hf
    obtain ⟨u56,hf⟩:=hf
    obtain ⟨u57,hf⟩:=hf
    obtain ⟨u58,hf⟩:=hf
    obtain ⟨u59,hf⟩:=hf
    obtain ⟨u60,hf⟩:=hf
    obtain ⟨u61,hf⟩:=hf
    obtain ⟨u62,hf⟩:=hf
    obtain ⟨u63,hf⟩:=hf
    obtain ⟨u64,hf⟩:=hf
    obtain ⟨u65,hf⟩:=hf
    obtain ⟨u66,hf⟩:=hf
    obtain ⟨u67,hf⟩:=hf
    obtain ⟨u68,hf⟩:=hf
    obtain ⟨u69,hf⟩:=hf
    obtain ⟨u70,hf⟩:=hf
    obtain ⟨u71,hf⟩:=hf
    obtain ⟨u72,hf⟩:=hf
    obtain ⟨u73,hf⟩:=hf
    subst hf
    go_wp2
    go_ret
    exact ⟨tv,L',rfl,S⟩
end

section
theorem setBk_same (m:Mt) (h g s:Nat):m.setBk h g s (m.bk h g s)=m:=by
  cases m
  simp only [Mt.setBk,Mt.mk.injEq,true_and,and_true]
  funext a b c
  split
  · rename_i k
    obtain ⟨rfl,rfl,rfl⟩:=k
    rfl
  · rfl

theorem setBk_setBk (m:Mt) (h g s:Nat) (a b:List Od):(m.setBk h g s a).setBk h g s b=m.setBk h g s b:=by
  simp only [Mt.setBk,Mt.mk.injEq,true_and,and_true]
  funext a b c
  split <;> rfl

section
variable {h g s:Nat} {N:Int} {m:Mt} {o z:Od} {r:List Od}

theorem Mid.core (M:Mid h g s N m o) (hpos:0<o.q) (hb:m.bk h g s=z :: r) (hf:pfits o z=true) (hne:z.t≠o.t) (n:Int) (hn:n=min o.q z.q) (os:List Od) (h1:heldS m.T os=heldS m.T ({ z with q:=z.q - n } :: r)) (h2:keptS m.T os=keptS m.T ({ z with q:=z.q - n } :: r)) (h3:∀ x∈os,x.Ok m h g s)
    (h4:(os.length:Int)+(if 0<o.q - n then 2 else 0)≤r.length+2) (h5:os.length≤r.length+1):Mid h g s N ((noteM (oneM m h g s o z n) h g z.p n).setBk h g s os) { o with q:=o.q - n }:=by
  have zo:=M.I.od h g s z M.q.1 M.q.2.1 M.q.2.2 (by rw [hb];exact List.mem_cons_self)
  obtain ⟨zt0,zt1⟩:=zo.t
  obtain ⟨ot0,ot1⟩:=M.t
  obtain ⟨zp0,zp1⟩:=zo.p
  obtain ⟨zq0,zq1⟩:=zo.q
  obtain ⟨op0,op1⟩:=M.p
  obtain ⟨oq0,oq1⟩:=M.n
  have n1:1≤n:=by rw [hn];omega
  have n2:n≤o.q:=by rw [hn];omega
  have n3:n≤z.q:=by rw [hn];omega
  have am:=mul_le' (a:=z.p) (b:=n) (A:=100000) (B:=10000) (by omega) zp1 (by omega) (by omega)
  have hr:=M.I.rt h M.q.1
  have fl:=fee_le hr am.1
  have hd:=one_rest (m:=m) (h:=h) (g:=g) (s:=s) (o:=o) (z:=z) n
  have hbk:=one_bk (m:=m) (h:=h) (g:=g) (s:=s) (o:=o) (z:=z) M.q.2.2 n
  have hne':z.t.toNat≠o.t.toNat:=by omega
  have hmo:=one_mo (m:=m) (h:=h) (g:=g) (s:=s) (o:=o) (z:=z) hne' n
  have hpc:=one_pc (m:=m) (h:=h) (g:=g) (s:=s) (o:=o) (z:=z) n
  have hdm:=show (oneM m h g s o z n).T=m.T∧(oneM m h g s o z n).G=m.G∧(oneM m h g s o z n).H=m.H by unfold oneM;split <;> exact ⟨rfl,rfl,rfl⟩
  have om:=one_money M hb n
  have ost:=one_stock M hb n
  have q1:at3 (noteM (oneM m h g s o z n) h g z.p n) h g s:=by
    show h<(oneM m h g s o z n).H∧g<(oneM m h g s o z n).G∧s<2
    rw [hdm.2.1,hdm.2.2]
    exact M.q
  have xb:(noteM (oneM m h g s o z n) h g z.p n).bk h g s={ z with q:=z.q - n } :: r:=by
    show (oneM m h g s o z n).bk h g s=_
    rw [hbk,hb]
    simp [Mt.setBk]
  have xl:((noteM (oneM m h g s o z n) h g z.p n).all.length:Int)=m.all.length:=by
    show (((oneM m h g s o z n).all.length:Nat):Int)=_
    have e:(oneM m h g s o z n).all=(m.setBk h g s ((m.bk h g s).set 0 { z with q:=z.q - n })).all:=by
      unfold Mt.all
      rw [hbk,hdm.2.1,hdm.2.2]
      rfl
    rw [e,all_setBk m M.q,List.length_set]
    omega
  have yl:=all_setBk _ q1 os
  rw [xb,xl] at yl
  simp only [List.length_cons] at yl
  have mon:=M.I.mon
  have fe1:=fee_add m h (o.p * (o.q - n)) (o.p * n)
  have e2:o.p * (o.q - n)+o.p * n=o.p * o.q:=by rw [Int.mul_sub];omega
  rw [e2] at fe1
  have yT:((noteM (oneM m h g s o z n) h g z.p n).setBk h g s os).T=m.T:=hdm.1
  have yG:((noteM (oneM m h g s o z n) h g z.p n).setBk h g s os).G=m.G:=hdm.2.1
  have yH:((noteM (oneM m h g s o z n) h g z.p n).setBk h g s os).H=m.H:=hdm.2.2
  have xT:(noteM (oneM m h g s o z n) h g z.p n).T=m.T:=hdm.1
  have ynu:((noteM (oneM m h g s o z n) h g z.p n).setBk h g s os).nu=m.nu:=hd.2.1
  have fits:s=1→z.p≤o.p:=fun e=>by
    have o0:o.s=0:=by rw [M.es,e];rfl
    simpa [pfits,o0] using hf
  have fee1:s=1→m.fee h (z.p * n)≤m.fee h (o.p * n)∧z.p * n≤o.p * n:=fun e=>by
    have k:=Int.mul_le_mul_of_nonneg_right (fits e) (show (0:Int)≤n by omega)
    exact ⟨fee_mono hr.1 k,k⟩
  have ifl:(if 0<o.q then (2:Int) else 0)=2:=if_pos hpos
  refine ⟨⟨M.I.bN,?_,?_,?_,?_,?_,?_,fun a ha=>?_,fun t ht=>?_,fun a b c ha hb' hc=>?_,?_,fun l hl=>?_,?_,fun a b c x ha hb' hc hx=>?_,?_,?_,?_,?_,fun g' hg'=>?_,fun a b ha hb'=>?_,fun a b ha hb'=>?_⟩,?_,M.eh,M.eg,M.es,?_,M.p,⟨by show 0≤o.q - n;omega,by show o.q - n≤10000;omega⟩,fun e=>?_⟩
  · rw [yT];exact M.I.T1
  · rw [yT];exact M.I.T8
  · rw [yG];exact M.I.G1
  · rw [yG];exact M.I.G4
  · rw [yH];exact M.I.H1
  · rw [yH];exact M.I.H4
  · show 0≤(oneM m h g s o z n).rt a∧(oneM m h g s o z n).rt a≤100
    rw [hd.2.2.2.2.1]
    exact M.I.rt a (by rw [yH] at ha;exact ha)
  · rw [yT] at ht
    show 0≤(oneM m h g s o z n).mo t
    rw [hmo t]
    have m1:=M.I.mo o.t.toNat (by omega)
    have m2:=M.I.mo z.t.toNat (by omega)
    have m3:=M.I.mo t ht
    by_cases e:s=1
    · have f1:=fee1 e
      have f2:=M.fe e
      have f3:=(fee_le hr (Int.mul_nonneg (show (0:Int)≤o.p by omega) (show (0:Int)≤o.q - n by omega))).1
      rw [if_pos e]
      split
      · omega
      · split <;> omega
    · rw [if_neg e]
      split <;> omega
  · rw [yT] at ha
    rw [yH] at hb'
    rw [yG] at hc
    show 0≤(oneM m h g s o z n).pc a b c
    rw [hpc]
    have:=M.I.pc a b c ha hb' hc
    split <;> omega
  · show (oneM m h g s o z n).ld.length≤20
    rw [hd.2.2.1];exact M.I.l20
  · have hl':l∈m.ld:=by
      have:l∈(oneM m h g s o z n).ld:=hl
      rwa [hd.2.2.1] at this
    rw [yT,yH,yG]
    exact M.I.ld l hl'
  · have:=M.I.a60
    omega
  · rw [yH] at ha
    rw [yG] at hb'
    by_cases k:a=h∧b=g∧c=s
    · obtain ⟨rfl,rfl,rfl⟩:=k
      have hx':x∈os:=by simpa [Mt.setBk] using hx
      exact (h3 x hx').of (by rw [ynu];omega) yT
    · have hx':x∈m.bk a b c:=by
        have:x∈(oneM m h g s o z n).bk a b c:=by simpa [Mt.setBk,noteM,k] using hx
        rw [hbk] at this
        simpa [Mt.setBk,k] using this
      exact (M.I.od a b c x ha hb' hc hx').of (by rw [ynu];omega) yT
  · rw [ynu];exact M.I.nu
  · show 0≤(oneM m h g s o z n).ho
    rw [hd.1]
    have:=M.I.ho
    omega
  · show 0≤(oneM m h g s o z n).tm∧(oneM m h g s o z n).tm≤1000000000
    rw [hd.2.2.2.1];exact M.I.tm
  · rw [money_setBk _ q1,money_note,xb,xT,h1]
    omega
  · rw [yG] at hg'
    rw [stock_setBk _ q1,stock_note,xT,h2]
    have s1:=ost g'
    have s2:=M.I.stk g' hg'
    by_cases e:s=1
    · subst e
      rw [xb]
      split <;> omega
    · rw [if_neg (fun f=>e f.1)]
      omega
  · rw [yH] at ha
    rw [yG] at hb'
    have k:=M.I.pi a b ha hb'
    rw [ynu]
    show 0≤(if a=h∧b=g then (oneM m h g s o z n).pi a b+n else (oneM m h g s o z n).pi a b)∧(if a=h∧b=g then (oneM m h g s o z n).pi a b+n else (oneM m h g s o z n).pi a b)+10000 * (_+(if 0<o.q - n then 2 else 0))≤_
    rw [hd.2.2.2.2.2.1]
    rw [ifl] at k
    split <;> omega
  · rw [yH] at ha
    rw [yG] at hb'
    have k:=M.I.am a b ha hb'
    rw [ynu]
    show 0≤(if a=h∧b=g then (oneM m h g s o z n).am a b+z.p * n else (oneM m h g s o z n).am a b)∧(if a=h∧b=g then (oneM m h g s o z n).am a b+z.p * n else (oneM m h g s o z n).am a b)+1000000000 * (_+(if 0<o.q - n then 2 else 0))≤_
    rw [hd.2.2.2.2.2.2.1]
    rw [ifl] at k
    split <;> omega
  · show h<((noteM (oneM m h g s o z n) h g z.p n).setBk h g s os).H∧g<((noteM (oneM m h g s o z n) h g z.p n).setBk h g s os).G∧s<2
    rw [yH,yG]
    exact M.q
  · rw [yT];exact M.t
  · show (oneM m h g s o z n).fee h (o.p * (o.q - n))≤(oneM m h g s o z n).mo o.t.toNat
    have ef:(oneM m h g s o z n).fee h (o.p * (o.q - n))=m.fee h (o.p * (o.q - n)):=by unfold Mt.fee;rw [hd.2.2.2.2.1]
    rw [ef,hmo,if_pos e,if_pos rfl]
    have f1:=fee1 e
    have f2:=M.fe e
    omega

theorem Mid.tr (M:Mid h g s N m o) (hpos:0<o.q) (hb:m.bk h g s=z :: r) (hf:pfits o z=true) (hne:z.t≠o.t) (he:z.q - min o.q z.q=0) :
    Mid h g s N ((noteM (oneM m h g s o z (min o.q z.q)) h g z.p (min o.q z.q)).setBk h g s r) { o with q:=o.q - min o.q z.q }:=by
  have zo:=M.I.od h g s z M.q.1 M.q.2.1 M.q.2.2 (by rw [hb];exact List.mem_cons_self)
  have k1:heldS m.T ({ z with q:=z.q - min o.q z.q } :: r)=heldS m.T [{ z with q:=z.q - min o.q z.q }]+heldS m.T r:=(adds_heldS _).cons _ r
  have k2:=heldS_one (o:={ z with q:=z.q - min o.q z.q }) zo.t
  have k3:keptS m.T ({ z with q:=z.q - min o.q z.q } :: r)=keptS m.T [{ z with q:=z.q - min o.q z.q }]+keptS m.T r:=(adds_keptS _).cons _ r
  have k4:=keptS_one (o:={ z with q:=z.q - min o.q z.q }) zo.t
  simp only [he,Int.mul_zero,ite_self] at k1 k2 k3 k4
  refine M.core hpos hb hf hne _ rfl r (by simp only [he];omega) (by simp only [he];omega) (fun x hx=>M.I.od h g s x M.q.1 M.q.2.1 M.q.2.2 (by rw [hb];exact List.mem_cons_of_mem _ hx)) ?_ (by omega)
  split <;> omega

theorem Mid.tq (M:Mid h g s N m o) (hpos:0<o.q) (hb:m.bk h g s=z :: r) (hf:pfits o z=true) (hne:z.t≠o.t) (he:z.q - min o.q z.q≠0) :
    Mid h g s N (noteM (oneM m h g s o z (min o.q z.q)) h g z.p (min o.q z.q)) { o with q:=o.q - min o.q z.q }:=by
  have zo:=M.I.od h g s z M.q.1 M.q.2.1 M.q.2.2 (by rw [hb];exact List.mem_cons_self)
  have zq:=zo.q
  have k:=M.core hpos hb hf hne _ rfl ({ z with q:=z.q - min o.q z.q } :: r) rfl rfl (fun x hx=>?_) ?_ (by simp)
  · have e:(noteM (oneM m h g s o z (min o.q z.q)) h g z.p (min o.q z.q)).bk h g s={ z with q:=z.q - min o.q z.q } :: r:=by
      show (oneM m h g s o z (min o.q z.q)).bk h g s=_
      rw [one_bk M.q.2.2,hb]
      simp [Mt.setBk]
    rw [← e,setBk_same] at k
    exact k
  · rcases List.mem_cons.1 hx with rfl | hx
    · exact ⟨zo.id,zo.t,zo.h,zo.g,zo.s,zo.p,⟨by show 1≤z.q - min o.q z.q;omega,by show z.q - min o.q z.q≤10000;omega⟩,zo.w⟩
    · exact M.I.od h g s x M.q.1 M.q.2.1 M.q.2.2 (by rw [hb];exact List.mem_cons_of_mem _ hx)
  · have:¬ 0<o.q - min o.q z.q:=by omega
    rw [if_neg this]
    simp only [List.length_cons]
    omega
end
end

end Go.Proofs.YtcfoobhihhndjaaGreat
