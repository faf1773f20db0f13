/- The program's market: match. -/
import Derived.Test.YtcfoobhihhndjaaB24
namespace Go.Proofs.Ytcfoobhihhndjaa

section
open Go.RowKit Go.Sort

/-- at the label: something is left of the order that came -/
def MJ (h g s : Nat) (w : World) (L : PL) (m : Mt) (xb : Nat) (I : Mt → Od → Prop) (M : Mt × Od × List Td) (b : Nat) (a : Act) (W : World) : Prop :=
  ∃ L' m' o' tv ts, MFr (.pointer (some ⟨L.x, 0, none⟩)) (.pointer (some ⟨xb, 0, none⟩)) (.pointer (some ⟨L.gb h, g * 5, none⟩)) (.pointer (some ⟨L.qb h g s, 0, none⟩)) tv a ∧ MHead h g s w L m xb I M L' m' o' tv ts W ∧ 0 < o'.q ∧ (m'.bk h g s).length ≤ b
/-- at the loop's head -/
def MI (h g s : Nat) (w : World) (L : PL) (m : Mt) (xb : Nat) (I : Mt → Od → Prop) (M : Mt × Od × List Td) (a : Act) (W : World) : Prop :=
  ∃ L' m' o' tv ts, MFr (.pointer (some ⟨L.x, 0, none⟩)) (.pointer (some ⟨xb, 0, none⟩)) (.pointer (some ⟨L.gb h, g * 5, none⟩)) (.pointer (some ⟨L.qb h g s, 0, none⟩)) tv a ∧ MHead h g s w L m xb I M L' m' o' tv ts W
/-- behind the loop -/
def MX (h g s : Nat) (w : World) (L : PL) (m : Mt) (xb : Nat) (M : Mt × Od × List Td) (a : Act) (W : World) : Prop :=
  ∃ L' tv, MFr (.pointer (some ⟨L.x, 0, none⟩)) (.pointer (some ⟨xb, 0, none⟩)) (.pointer (some ⟨L.gb h, g * 5, none⟩)) (.pointer (some ⟨L.qb h g s, 0, none⟩)) tv a ∧ MS w L m xb L' M.1 M.2.1 tv M.2.2 W
def Mq (L : PL) (h g s : Nat) (W : World) : Nat := qlen (W.cell? ⟨L.qb h g s, 1, none⟩)
def Mmu (L : PL) (h g s xb : Nat) (W : World) : Nat := Mq L h g s W + posN (W.cell? ⟨xb, 6, none⟩)

theorem MHead.ts_le {h g s : Nat} {w : World} {L : PL} {m : Mt} {xb : Nat} {I : Mt → Od → Prop} {M : Mt × Od × List Td} {L' : PL} {m' : Mt} {o' : Od} {tv : Value} {ts : List Td} {W : World} (H : MHead h g s w L m xb I M L' m' o' tv ts W) : ts.length ≤ M.2.2.length := by
  obtain ⟨rest, _, h2⟩ := H.C
  rw [h2]
  simp

theorem len_bk {m : Mt} {h g s : Nat} (q : at3 m h g s) : (m.bk h g s).length ≤ m.all.length := by
  have h1 := all_setBk m q []
  simp only [List.length_nil] at h1
  omega

set_option maxRecDepth 1000000 in
theorem pass_any {h g s : Nat} {w : World} {L : PL} {m : Mt} {xb : Nat} {N : Int} {I : Mt → Od → Prop} {M : Mt × Od × List Td} (run : Run h g s N I) (hM : M.2.2.length ≤ 1000000) {b : Nat} {Q : Exit → Act → World → Prop} {a : Act} {W : World} (hJ : MJ h g s w L m xb I M b a W)
    (hX : ∀ a' W', MX h g s w L m xb M a' W' → Q (.exit 0) a' W') (hI : ∀ a' W', MI h g s w L m xb I M a' W' → Mmu L h g s xb W' < b + 1 → Q .normal a' W') :
    Code.wp Try.prog (behindLabel ((Try.f44.body.bind scopeIn).getD .skip)) (Exit.jump 0 (fun a' W' => MJ h g s w L m xb I M b a' W' ∧ Mq L h g s W' < Mq L h g s W) Q) a W := by
  obtain ⟨L', m', o', tv, ts, hf, H, hq0, hlen⟩ := hJ
  have q := (run.bd _ _ H.I).1
  have hts := H.ts_le
  have ok := run.ok _ _ H.I
  have h60 : (m'.bk h g s).length ≤ 60 := Nat.le_trans (len_bk q) ok.a60
  have hql := H.qlen q
  obtain ⟨u2, hf⟩ := hf
  obtain ⟨u3, hf⟩ := hf
  obtain ⟨u4, hf⟩ := hf
  obtain ⟨u8, hf⟩ := hf
  obtain ⟨u9, hf⟩ := hf
  obtain ⟨u10, hf⟩ := hf
  obtain ⟨u11, hf⟩ := hf
  obtain ⟨u12, hf⟩ := hf
  obtain ⟨u13, hf⟩ := hf
  obtain ⟨u14, hf⟩ := hf
  obtain ⟨u15, hf⟩ := hf
  obtain ⟨u16, hf⟩ := hf
  obtain ⟨u17, hf⟩ := hf
  obtain ⟨u18, hf⟩ := hf
  obtain ⟨u19, hf⟩ := hf
  obtain ⟨u20, hf⟩ := hf
  obtain ⟨u21, hf⟩ := hf
  obtain ⟨u22, hf⟩ := hf
  obtain ⟨u23, hf⟩ := hf
  obtain ⟨u24, hf⟩ := hf
  obtain ⟨u25, hf⟩ := hf
  obtain ⟨u26, hf⟩ := hf
  obtain ⟨u27, hf⟩ := hf
  obtain ⟨u28, hf⟩ := hf
  obtain ⟨u29, hf⟩ := hf
  obtain ⟨u30, hf⟩ := hf
  obtain ⟨u31, hf⟩ := hf
  obtain ⟨u32, hf⟩ := hf
  obtain ⟨u33, hf⟩ := hf
  obtain ⟨u34, hf⟩ := hf
  obtain ⟨u35, hf⟩ := hf
  obtain ⟨u36, hf⟩ := hf
  obtain ⟨u37, hf⟩ := hf
  obtain ⟨u38, hf⟩ := hf
  obtain ⟨u39, hf⟩ := hf
  obtain ⟨u40, hf⟩ := hf
  obtain ⟨u41, hf⟩ := hf
  obtain ⟨u42, hf⟩ := hf
  obtain ⟨u43, hf⟩ := hf
  obtain ⟨u44, hf⟩ := hf
  obtain ⟨u45, hf⟩ := hf
  obtain ⟨u46, hf⟩ := hf
  obtain ⟨u47, hf⟩ := hf
  obtain ⟨u48, hf⟩ := hf
  obtain ⟨u49, hf⟩ := hf
  obtain ⟨u50, hf⟩ := hf
  obtain ⟨u51, hf⟩ := hf
  obtain ⟨u52, hf⟩ := hf
  obtain ⟨u53, hf⟩ := hf
  obtain ⟨u54, hf⟩ := hf
  obtain ⟨u55, hf⟩ := hf
  obtain ⟨u56, hf⟩ := hf
  obtain ⟨u57, hf⟩ := hf
  obtain ⟨u58, hf⟩ := hf
  obtain ⟨u59, hf⟩ := hf
  obtain ⟨u60, hf⟩ := hf
  obtain ⟨u61, hf⟩ := hf
  obtain ⟨u62, hf⟩ := hf
  obtain ⟨u63, hf⟩ := hf
  obtain ⟨u64, hf⟩ := hf
  obtain ⟨u65, hf⟩ := hf
  obtain ⟨u66, hf⟩ := hf
  obtain ⟨u67, hf⟩ := hf
  obtain ⟨u68, hf⟩ := hf
  obtain ⟨u69, hf⟩ := hf
  obtain ⟨u70, hf⟩ := hf
  obtain ⟨u71, hf⟩ := hf
  obtain ⟨u72, hf⟩ := hf
  obtain ⟨u73, hf⟩ := hf
  subst hf
  cases hb : m'.bk h g s with
  | nil =>
    refine pass_none run H hb (fun a W' f S => ?_) u2 u3 u4 u8 u9 u10 u11 u12 u13 u14 u15 u16 u17 u18 u19 u20 u21 u22 u23 u24 u25 u26 u27 u28 u29 u30 u31 u32 u33 u34 u35 u36 u37 u38 u39 u40 u41 u42 u43 u44 u45 u46 u47 u48 u49 u50 u51 u52 u53 u54 u55 u56 u57 u58 u59 u60 u61 u62 u63 u64 u65 u66 u67 u68 u69 u70 u71 u72 u73
    exact hX a W' ⟨_, _, f, S⟩
  | cons z r =>
    cases hpf : pfits o' z with
    | false =>
      refine pass_far run H hb hq0 hpf (fun a W' f S => ?_) u2 u3 u4 u8 u9 u10 u11 u12 u13 u14 u15 u16 u17 u18 u19 u20 u21 u22 u23 u24 u25 u26 u27 u28 u29 u30 u31 u32 u33 u34 u35 u36 u37 u38 u39 u40 u41 u42 u43 u44 u45 u46 u47 u48 u49 u50 u51 u52 u53 u54 u55 u56 u57 u58 u59 u60 u61 u62 u63 u64 u65 u66 u67 u68 u69 u70 u71 u72 u73
      exact hX a W' ⟨_, _, f, S⟩
    | true =>
      rw [hb] at hlen hql
      simp only [List.length_cons] at hlen hql
      by_cases hzt : z.t = o'.t
      · refine pass_own run H hb (by omega) hq0 hpf hzt (fun a W' L'' f S => ⟨rfl, ⟨_, _, _, _, _, f, S, hq0, ?_⟩, ?_⟩) u2 u3 u4 u8 u9 u10 u11 u12 u13 u14 u15 u16 u17 u18 u19 u20 u21 u22 u23 u24 u25 u26 u27 u28 u29 u30 u31 u32 u33 u34 u35 u36 u37 u38 u39 u40 u41 u42 u43 u44 u45 u46 u47 u48 u49 u50 u51 u52 u53 u54 u55 u56 u57 u58 u59 u60 u61 u62 u63 u64 u65 u66 u67 u68 u69 u70 u71 u72 u73
        · rw [bk_release, bk_set]; omega
        · have e := S.qlen (by have := releaseM_dims (m'.setBk h g s r) z.t.toNat h g s z; exact ⟨by rw [this.2.2]; exact q.1, by rw [this.2.1]; exact q.2.1, q.2.2⟩)
          rw [bk_release, bk_set] at e
          show qlen _ < qlen _
          rw [e, hql]
          omega
      · have od := oneM_dims m' h g s o' z (min o'.q z.q)
        by_cases h0 : z.q - min o'.q z.q = 0
        · refine pass_trade run H hb (by omega) (by omega) hq0 hpf hzt h0 (fun a W' L'' tv' f S => ?_) u2 u3 u4 u8 u9 u10 u11 u12 u13 u14 u15 u16 u17 u18 u19 u20 u21 u22 u23 u24 u25 u26 u27 u28 u29 u30 u31 u32 u33 u34 u35 u36 u37 u38 u39 u40 u41 u42 u43 u44 u45 u46 u47 u48 u49 u50 u51 u52 u53 u54 u55 u56 u57 u58 u59 u60 u61 u62 u63 u64 u65 u66 u67 u68 u69 u70 u71 u72 u73
          refine hI _ _ ⟨_, _, _, _, _, f, S⟩ ?_
          have e := S.qlen ⟨by show h < (oneM m' h g s o' z (min o'.q z.q)).H; rw [od.2.2]; exact q.1, by show g < (oneM m' h g s o' z (min o'.q z.q)).G; rw [od.2.1]; exact q.2.1, q.2.2⟩
          have e2 := S.posN
          rw [bk_set] at e
          show qlen _ + posN _ < _
          rw [e, e2]
          split <;> omega
        · refine pass_left run H hb (by omega) (by omega) hq0 hpf hzt h0 (fun a W' L'' tv' f S => ?_) u2 u3 u4 u8 u9 u10 u11 u12 u13 u14 u15 u16 u17 u18 u19 u20 u21 u22 u23 u24 u25 u26 u27 u28 u29 u30 u31 u32 u33 u34 u35 u36 u37 u38 u39 u40 u41 u42 u43 u44 u45 u46 u47 u48 u49 u50 u51 u52 u53 u54 u55 u56 u57 u58 u59 u60 u61 u62 u63 u64 u65 u66 u67 u68 u69 u70 u71 u72 u73
          refine hI _ _ ⟨_, _, _, _, _, f, S⟩ ?_
          have e := S.qlen ⟨by show h < (oneM m' h g s o' z (min o'.q z.q)).H; rw [od.2.2]; exact q.1, by show g < (oneM m' h g s o' z (min o'.q z.q)).G; rw [od.2.1]; exact q.2.1, q.2.2⟩
          have e2 := S.posN
          rw [mo_bk0 q.2.2 hb] at e
          show qlen _ + posN _ < _
          rw [e, e2, if_neg (by show ¬ 0 < o'.q - min o'.q z.q; omega)]
          simp only [List.length_cons]
          omega

set_option maxHeartbeats 4000000 in
set_option maxRecDepth 1000000 in
theorem round_any {h g s : Nat} {w : World} {L : PL} {m : Mt} {xb : Nat} {N : Int} {I : Mt → Od → Prop} {M : Mt × Od × List Td} (run : Run h g s N I) (hM : M.2.2.length ≤ 1000000) {Q : Exit → Act → World → Prop} {a : Act} {W : World} (hI : MI h g s w L m xb I M a W)
    (hX : ∀ a' W', MX h g s w L m xb M a' W' → Q (.exit 0) a' W') :
    Code.wp Try.prog ((Try.f44.body.bind loopIn).getD .skip) (Exit.then (fun a' W' => MI h g s w L m xb I M a' W' ∧ Mmu L h g s xb W' < Mmu L h g s xb W) Q) a W := by
  obtain ⟨L', m', o', tv, ts, hf, H⟩ := hI
  have q := (run.bd _ _ H.I).1
  have hql := H.qlen q
  have hps := H.posN
  have o6 := (H.S.c 6 _ rfl).cell
  have HR := hide run
  have HM := hide hM
  have HX := hide hX
  obtain ⟨u2, hf⟩ := hf
  obtain ⟨u3, hf⟩ := hf
  obtain ⟨u4, hf⟩ := hf
  obtain ⟨u8, hf⟩ := hf
  obtain ⟨u9, hf⟩ := hf
  obtain ⟨u10, hf⟩ := hf
  obtain ⟨u11, hf⟩ := hf
  obtain ⟨u12, hf⟩ := hf
  obtain ⟨u13, hf⟩ := hf
  obtain ⟨u14, hf⟩ := hf
  obtain ⟨u15, hf⟩ := hf
  obtain ⟨u16, hf⟩ := hf
  obtain ⟨u17, hf⟩ := hf
  obtain ⟨u18, hf⟩ := hf
  obtain ⟨u19, hf⟩ := hf
  obtain ⟨u20, hf⟩ := hf
  obtain ⟨u21, hf⟩ := hf
  obtain ⟨u22, hf⟩ := hf
  obtain ⟨u23, hf⟩ := hf
  obtain ⟨u24, hf⟩ := hf
  obtain ⟨u25, hf⟩ := hf
  obtain ⟨u26, hf⟩ := hf
  obtain ⟨u27, hf⟩ := hf
  obtain ⟨u28, hf⟩ := hf
  obtain ⟨u29, hf⟩ := hf
  obtain ⟨u30, hf⟩ := hf
  obtain ⟨u31, hf⟩ := hf
  obtain ⟨u32, hf⟩ := hf
  obtain ⟨u33, hf⟩ := hf
  obtain ⟨u34, hf⟩ := hf
  obtain ⟨u35, hf⟩ := hf
  obtain ⟨u36, hf⟩ := hf
  obtain ⟨u37, hf⟩ := hf
  obtain ⟨u38, hf⟩ := hf
  obtain ⟨u39, hf⟩ := hf
  obtain ⟨u40, hf⟩ := hf
  obtain ⟨u41, hf⟩ := hf
  obtain ⟨u42, hf⟩ := hf
  obtain ⟨u43, hf⟩ := hf
  obtain ⟨u44, hf⟩ := hf
  obtain ⟨u45, hf⟩ := hf
  obtain ⟨u46, hf⟩ := hf
  obtain ⟨u47, hf⟩ := hf
  obtain ⟨u48, hf⟩ := hf
  obtain ⟨u49, hf⟩ := hf
  obtain ⟨u50, hf⟩ := hf
  obtain ⟨u51, hf⟩ := hf
  obtain ⟨u52, hf⟩ := hf
  obtain ⟨u53, hf⟩ := hf
  obtain ⟨u54, hf⟩ := hf
  obtain ⟨u55, hf⟩ := hf
  obtain ⟨u56, hf⟩ := hf
  obtain ⟨u57, hf⟩ := hf
  obtain ⟨u58, hf⟩ := hf
  obtain ⟨u59, hf⟩ := hf
  obtain ⟨u60, hf⟩ := hf
  obtain ⟨u61, hf⟩ := hf
  obtain ⟨u62, hf⟩ := hf
  obtain ⟨u63, hf⟩ := hf
  obtain ⟨u64, hf⟩ := hf
  obtain ⟨u65, hf⟩ := hf
  obtain ⟨u66, hf⟩ := hf
  obtain ⟨u67, hf⟩ := hf
  obtain ⟨u68, hf⟩ := hf
  obtain ⟨u69, hf⟩ := hf
  obtain ⟨u70, hf⟩ := hf
  obtain ⟨u71, hf⟩ := hf
  obtain ⟨u72, hf⟩ := hf
  obtain ⟨u73, hf⟩ := hf
  subst hf
  by_cases h0 : 0 < o'.q
  · have HE := hide (show Mmu L h g s xb W = (m'.bk h g s).length + 1 by show qlen _ + posN _ = _; rw [hql, hps, if_pos h0])
    have HJ := hide (fun a W' (f : MFr (.pointer (some ⟨L.x, 0, none⟩)) (.pointer (some ⟨xb, 0, none⟩)) (.pointer (some ⟨L.gb h, g * 5, none⟩)) (.pointer (some ⟨L.qb h g s, 0, none⟩)) tv a) (e : W' = W) => show MJ h g s w L m xb I M (m'.bk h g s).length a W' from ⟨L', m', o', tv, ts, f, by rw [e]; exact H, h0, Nat.le_refl _⟩)
    clear hql hps H q hM hX run
    conv => arg 2; whnf
    go_wp2
    refine wp_scope_label 0 (MJ h g s w L m xb I M (m'.bk h g s).length) (fun _ W => Mq L h g s W) ?_ (fun a W' hJ => ?_)
    · exact HJ.out _ _ ⟨_, _, _, _, _, _, _, _, _, _, _, _, _, _, _, _, _, _, _, _, _, _, _, _, _, _, _, _, _, _, _, _, _, _, _, _, _, _, _, _, _, _, _, _, _, _, _, _, _, _, _, _, _, _, _, _, _, _, _, _, _, _, _, _, _, _, _, _, _, rfl⟩ rfl
    · refine pass_any HR.out HM.out hJ (fun a' W'' x => ?_) (fun a' W'' i lt => ?_)
      · exact HX.out _ _ x
      · exact ⟨i, by rw [HE.out]; exact lt⟩
  · have HE := hide (fun a W' (f : MFr (.pointer (some ⟨L.x, 0, none⟩)) (.pointer (some ⟨xb, 0, none⟩)) (.pointer (some ⟨L.gb h, g * 5, none⟩)) (.pointer (some ⟨L.qb h g s, 0, none⟩)) tv a) (e : W' = W) => hX a W' ⟨L', tv, f, by rw [e]; exact H.fin (matchM_done _ (by omega))⟩)
    clear hql hps H q hM hX run
    conv => arg 2; whnf
    go_wp2
    exact HE.out _ _ ⟨_, _, _, _, _, _, _, _, _, _, _, _, _, _, _, _, _, _, _, _, _, _, _, _, _, _, _, _, _, _, _, _, _, _, _, _, _, _, _, _, _, _, _, _, _, _, _, _, _, _, _, _, _, _, _, _, _, _, _, _, _, _, _, _, _, _, _, _, _, rfl⟩ rfl

theorem matchM_len {h g s : Nat} : ∀ (l : List Od) (m : Mt) (o : Od), (matchM h g s l m o).2.2.length ≤ l.length
  | [], m, o => by simp [matchM]
  | z :: r, m, o => by
    rw [matchM]
    split
    · simp
    · split
      · simp
      · split
        · exact Nat.le_trans (matchM_len r _ _) (by simp)
        · split
          · have := matchM_len (h := h) (g := g) (s := s) r ((noteM (oneM m h g s o z (min o.q z.q)) h g z.p (min o.q z.q)).setBk h g s r) { o with q := o.q - min o.q z.q }
            simp only [List.length_cons]
            omega
          · simp

set_option maxHeartbeats 4000000 in
set_option maxRecDepth 1000000 in
theorem match_any (w : World) (L : PL) (m : Mt) (N : Int) {I : Mt → Od → Prop} {h g s : Nat} (run : Run h g s N I) (R : PRep w L m) (xb : Nat) (o : Od) (hI : I m o) (hx : OdAt w xb o) (hxp : Plain w xb) (hxS : ¬ L.S m xb) (hxr : xb ≠ L.rb) (hxb : xb ≠ L.bb) :
    Calls Try.prog 44 #[.pointer (some ⟨L.x, 0, none⟩), .pointer (some ⟨xb, 0, none⟩)] w fun e w' => ∃ tv L', e = .returned tv ∧ MS w L m xb L' (matchM h g s (m.bk h g s) m o).1 (matchM h g s (m.bk h g s) m o).2.1 tv (matchM h g s (m.bk h g s) m o).2.2 w' := by
  have ok := run.ok m o hI
  obtain ⟨q, eh, eg, es, ht, hp, hq⟩ := run.bd m o hI
  have s2 := q.2.2
  have S0 : MS w L m xb L m o (.slice none 0 0) [] w := ⟨R, hx, hxp, hxp.lt, hxS, hxr, hxb, R.rblt ok.H1, World.ownsRow_nil _ _ _ _, fun b hb => by simp [Value.ownBlock] at hb, ⟨rfl, rfl, rfl, rfl, rfl, rfl⟩, ⟨rfl, rfl, rfl⟩, Kep.refl _ _, fun b hb => .inl hb⟩
  have hml := matchM_len (h := h) (g := g) (s := s) (m.bk h g s) m o
  have h60 : (m.bk h g s).length ≤ 60 := Nat.le_trans (len_bk q) ok.a60
  generalize hM : matchM h g s (m.bk h g s) m o = M at *
  have H0 : MHead h g s w L m xb I M L m o (.slice none 0 0) [] w := ⟨S0, hI, M.2.2, by rw [hM], rfl⟩
  have HR := hide run
  have HL := hide (show M.2.2.length ≤ 1000000 by omega)
  have HB := hide (bookOf_any w L m R xb h g o hx eh eg q.1 q.2.1)
  obtain ⟨si, hsi⟩ : ∃ si, si = otherS s := ⟨_, rfl⟩
  have hos : otherS si = s := by rw [hsi]; unfold otherS; rcases s with _ | _ | s <;> first | rfl | omega
  have HT := hide (show ∀ W, Calls Try.prog 70 #[.int .i64 si] W fun e w' => e = .returned (.int .i64 s) ∧ w' = W from fun W => by have := other_any si (by rw [hsi]; unfold otherS; split <;> omega) W; rwa [hos] at this)
  have o4 := (hx 4 _ rfl).cell
  rw [es, ← hsi] at o4
  have cs := (R.sd h g s q).cell
  have hs2 : (s : Int) < 2 := by omega
  have HH := hide (show ∀ W, Kep non w W → MHead h g s w L m xb I M L m o (.slice none 0 0) [] W from fun W k => ⟨H0.S.later k, H0.I, H0.C⟩)
  have HC := hide (show ∀ W, Kep non w W → W.cell? ⟨xb, 4, none⟩ = some (.int .i64 si) ∧ W.cell? ⟨L.gb h, g * 5 + s, none⟩ = some (.pointer (some ⟨L.qb h g s, 0, none⟩)) from fun W k => ⟨k.cell o4 (fun f => f), k.cell cs (fun f => f)⟩)
  clear run R hI hx hxp hxS hxr hxb S0 H0 ok eh eg es ht hp hq hM hsi hos o4 cs hml h60
  go_enter Try.func44, Try.ntmps44
  go_wp2_with (go_at_call 69; refine HB.out.mono ?_; rintro e w' ⟨rfl, k, rfl⟩)
  have HH2 := hide (show ∀ n, MHead h g s w L m xb I M L m o (.slice none 0 0) [] ((w.drewN k).drewN n) from fun n => HH.out _ (((Kep.refl _ _).drewN k).drewN n))
  obtain ⟨o4, cs⟩ := HC.out _ ((Kep.refl non w).drewN k)
  clear HC HH HB
  generalize w.drewN k = W0 at *
  go_quiet ((go_at_call 70; exact Calls.quiet_of_same (HT.out _)))
  go_wp2
  refine wp_loop (MI h g s w L m xb I M) (fun _ W => Mmu L h g s xb W) ?_ (fun a W hI => ?_)
  · exact ⟨L, m, o, .slice none 0 0, [], ⟨_, _, _, _, _, _, _, _, _, _, _, _, _, _, _, _, _, _, _, _, _, _, _, _, _, _, _, _, _, _, _, _, _, _, _, _, _, _, _, _, _, _, _, _, _, _, _, _, _, _, _, _, _, _, _, _, _, _, _, _, _, _, _, _, _, _, _, _, _, rfl⟩, HH2.out _⟩
  · refine round_any HR.out HL.out hI (fun a' W' x => ?_)
    clear hI
    obtain ⟨L', tv, hf, S⟩ := x
    obtain ⟨u2, hf⟩ := hf
    obtain ⟨u3, hf⟩ := hf
    obtain ⟨u4, hf⟩ := hf
    obtain ⟨u8, hf⟩ := hf
    obtain ⟨u9, hf⟩ := hf
    obtain ⟨u10, hf⟩ := hf
    obtain ⟨u11, hf⟩ := hf
    obtain ⟨u12, hf⟩ := hf
    obtain ⟨u13, hf⟩ := hf
    obtain ⟨u14, hf⟩ := hf
    obtain ⟨u15, hf⟩ := hf
    obtain ⟨u16, hf⟩ := hf
    obtain ⟨u17, hf⟩ := hf
    obtain ⟨u18, hf⟩ := hf
    obtain ⟨u19, hf⟩ := hf
    obtain ⟨u20, hf⟩ := hf
    obtain ⟨u21, hf⟩ := hf
    obtain ⟨u22, hf⟩ := hf
    obtain ⟨u23, hf⟩ := hf
    obtain ⟨u24, hf⟩ := hf
    obtain ⟨u25, hf⟩ := hf
    obtain ⟨u26, hf⟩ := hf
    obtain ⟨u27, hf⟩ := hf
    obtain ⟨u28, hf⟩ := hf
    obtain ⟨u29, hf⟩ := hf
    obtain ⟨u30, hf⟩ := hf
    obtain ⟨u31, hf⟩ := hf
    obtain ⟨u32, hf⟩ := hf
    obtain ⟨u33, hf⟩ := hf
    obtain ⟨u34, hf⟩ := hf
    obtain ⟨u35, hf⟩ := hf
    obtain ⟨u36, hf⟩ := hf
    obtain ⟨u37, hf⟩ := hf
    obtain ⟨u38, hf⟩ := hf
    obtain ⟨u39, hf⟩ := hf
    obtain ⟨u40, hf⟩ := hf
    obtain ⟨u41, hf⟩ := hf
    obtain ⟨u42, hf⟩ := hf
    obtain ⟨u43, hf⟩ := hf
    obtain ⟨u44, hf⟩ := hf
    obtain ⟨u45, hf⟩ := hf
    obtain ⟨u46, hf⟩ := hf
    obtain ⟨u47, hf⟩ := hf
    obtain ⟨u48, hf⟩ := hf
    obtain ⟨u49, hf⟩ := hf
    obtain ⟨u50, hf⟩ := hf
    obtain ⟨u51, hf⟩ := hf
    obtain ⟨u52, hf⟩ := hf
    obtain ⟨u53, hf⟩ := hf
    obtain ⟨u54, hf⟩ := hf
    obtain ⟨u55, hf⟩ := hf
    obtain ⟨u56, hf⟩ := hf
    obtain ⟨u57, hf⟩ := hf
    obtain ⟨u58, hf⟩ := hf
    obtain ⟨u59, hf⟩ := hf
    obtain ⟨u60, hf⟩ := hf
    obtain ⟨u61, hf⟩ := hf
    obtain ⟨u62, hf⟩ := hf
    obtain ⟨u63, hf⟩ := hf
    obtain ⟨u64, hf⟩ := hf
    obtain ⟨u65, hf⟩ := hf
    obtain ⟨u66, hf⟩ := hf
    obtain ⟨u67, hf⟩ := hf
    obtain ⟨u68, hf⟩ := hf
    obtain ⟨u69, hf⟩ := hf
    obtain ⟨u70, hf⟩ := hf
    obtain ⟨u71, hf⟩ := hf
    obtain ⟨u72, hf⟩ := hf
    obtain ⟨u73, hf⟩ := hf
    subst hf
    go_wp2
    go_ret
    exact ⟨tv, L', rfl, S⟩
end

end Go.Proofs.Ytcfoobhihhndjaa
