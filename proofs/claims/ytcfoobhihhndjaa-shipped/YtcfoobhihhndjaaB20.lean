/- The program's market: what the calls of a match do to its states. -/
import Derived.ScopeJumps
import Derived.Test.YtcfoobhihhndjaaB18
import Derived.Test.YtcfoobhihhndjaaB19
import Derived.WalkMore
namespace Go.Proofs.Ytcfoobhihhndjaa

section
open Go.RowKit Go.Sort

/-- a scope that begins with its label -/
theorem wp_scope_label {P : Program} {Q : Exit → Act → World → Prop} {a : Act} {w : World} {rest : Code} (l : Nat) (J : Act → World → Prop) (μ : Act → World → Nat) (h0 : J a w) (pass : ∀ a w, J a w → rest.wp P (Exit.jump l (fun a' w' => J a' w' ∧ μ a' w' < μ a w) Q) a w) : (Code.scope (.seq (.label l) rest)).wp P Q a w := by
  refine wp_scope_jumps l J μ (rest := .seq .skip rest) (by simp [findLabel]) ?_ ?_
  · refine wp_seq (wp_label ?_)
    refine wp_mono (pass a w h0) (fun e a w h => ?_)
    cases e with
    | goto l' => exact ⟨h.1, h.2.1⟩
    | normal => exact h
    | exit _ => exact h
    | ret => exact h
    | panic _ => exact h
    | outgrown => exact h
  · intro a w hJ
    refine wp_seq (wp_skip ?_)
    exact pass a w hJ

def Td.agg (t : Td) : Value := .agg #[.int .i64 t.tk, .int .i64 t.mr, .int .i64 t.wi, .int .i64 t.p, .int .i64 t.q, .int .i64 t.f]

theorem first_q0 {W : World} {L : PL} {m : Mt} (R : PRep W L m) {h g s : Nat} (q : at3 m h g s) (hb : m.bk h g s = []) :
    Calls Try.prog 71 #[.pointer (some ⟨L.qb h g s, 0, none⟩)] W fun e w' => e = .returned (.tuple #[.pointer none, .bool false]) ∧ w' = W := by
  obtain ⟨a, c, e⟩ := R.qvform q
  have h1 := (R.q1 h g s q).cell
  rw [e, R.ln h g s q, hb] at h1
  exact first_none _ c W a h1

theorem first_q1 {W : World} {L : PL} {m : Mt} (R : PRep W L m) {h g s : Nat} (q : at3 m h g s) {y : Nat} {ys : List Nat} (hob : L.ob h g s = y :: ys) :
    Calls Try.prog 71 #[.pointer (some ⟨L.qb h g s, 0, none⟩)] W fun e w' => e = .returned (.tuple #[.pointer (some ⟨y, 0, none⟩), .bool true]) ∧ w' = W := by
  have hr := R.qr h g s q
  have h1 := (R.q1 h g s q).cell
  have hl : (L.ob h g s).length = ys.length + 1 := by rw [hob]; rfl
  rcases hr.2 with ⟨_, e2⟩ | ⟨b, cap, cur, e, _⟩
  · omega
  · rw [e] at hr h1
    refine first_some _ b _ cap y W (by omega) h1 ?_
    have := hr.cellAt 0 (by omega)
    rw [this, hob]
    rfl

theorem PRep.head {W : World} {L : PL} {m : Mt} (R : PRep W L m) {h g s : Nat} (q : at3 m h g s) {z : Od} {r : List Od} (hb : m.bk h g s = z :: r) : ∃ y ys, L.ob h g s = y :: ys := by
  have hl := R.ln h g s q
  rw [hb] at hl
  cases e : L.ob h g s with
  | nil => rw [e] at hl; simp at hl
  | cons y ys => exact ⟨y, ys, rfl⟩

theorem oneM_dims (m : Mt) (h g s : Nat) (o z : Od) (n : Int) : (oneM m h g s o z n).T = m.T ∧ (oneM m h g s o z n).G = m.G ∧ (oneM m h g s o z n).H = m.H := by
  unfold oneM
  split <;> exact ⟨rfl, rfl, rfl⟩

theorem releaseM_dims (m : Mt) (t h g s : Nat) (o : Od) : (releaseM m t h g s o).T = m.T ∧ (releaseM m t h g s o).G = m.G ∧ (releaseM m t h g s o).H = m.H := by
  unfold releaseM
  split <;> exact ⟨rfl, rfl, rfl⟩

theorem trade_ms {w0 : World} {L0 : PL} {m0 : Mt} {xb : Nat} {L : PL} {m : Mt} {o : Od} {tv : Value} {ts : List Td} {W : World} (S : MS w0 L0 m0 xb L m o tv ts W) {N : Int} (ok : m.Ok N) {h g s : Nat} (q : at3 m h g s) {z : Od} {r : List Od} (hb : m.bk h g s = z :: r) {y : Nat} {ys : List Nat} (hob : L.ob h g s = y :: ys)
    (eh : o.h = h) (eg : o.g = g) (es : o.s = otherS s) (ht : 0 ≤ o.t ∧ o.t < m.T) (hp : 1 ≤ o.p ∧ o.p ≤ 100000) (hq : 1 ≤ o.q ∧ o.q ≤ 10000) (hne : z.t ≠ o.t) :
    Calls Try.prog 73 #[.pointer (some ⟨L.x, 0, none⟩), .pointer (some ⟨xb, 0, none⟩), .pointer (some ⟨y, 0, none⟩)] W fun e w' => e = .returned (oneT m h o z (min o.q z.q)).agg ∧ MS w0 L0 m0 xb L (oneM m h g s o z (min o.q z.q)) { o with q := o.q - min o.q z.q } tv ts w' := by
  have hi : (L.ob h g s)[0]? = some y := by rw [hob]; rfl
  have hz : (m.bk h g s)[0]? = some z := by rw [hb]; rfl
  have zo := ok.od h g s z q.1 q.2.1 q.2.2 (by rw [hb]; exact List.mem_cons_self)
  have zt := zo.t
  obtain ⟨t, et⟩ : ∃ t : Nat, o.t = t := ⟨o.t.toNat, by omega⟩
  obtain ⟨u, eu⟩ : ∃ u : Nat, z.t = u := ⟨z.t.toNat, by omega⟩
  have e1 : o.t.toNat = t := by omega
  have e2 : z.t.toNat = u := by omega
  by_cases hs : s = 1
  · subst hs
    refine (trade_buy W L m N S.R ok (tb := t) (ts := u) o z q hi hz S.c S.pl S.nx S.xr S.xq et eh eg (by simpa [otherS] using es) (by omega) eu (by omega) hp hq _ rfl _ rfl).mono ?_
    rintro e w' ⟨rfl, h1, h2, h3, h4⟩
    refine ⟨rfl, S.same h3 ?_ h2 h4 (oneM_dims m h g 1 o z _)⟩
    rw [oneM, if_pos rfl, e1, e2]
    exact h1
  · have s0 : s = 0 := by have := q.2.2; omega
    subst s0
    refine (trade_sell W L m N S.R ok (ts := t) (tb := u) o z q hi hz S.c S.pl S.nx S.xr S.xq et eh eg (by simpa [otherS] using es) (by omega) eu (by omega) hq _ rfl _ rfl).mono ?_
    rintro e w' ⟨rfl, h1, h2, h3, h4⟩
    refine ⟨rfl, S.same h3 ?_ h2 h4 (oneM_dims m h g 0 o z _)⟩
    rw [oneM, if_neg (by decide), e1, e2]
    exact h1

theorem note_ms {w0 : World} {L0 : PL} {m0 : Mt} {xb : Nat} {L : PL} {m : Mt} {o : Od} {tv : Value} {ts : List Td} {W : World} (S : MS w0 L0 m0 xb L m o tv ts W) {h g : Nat} (hh : h < m.H) (hg : g < m.G) (hpi : 0 ≤ m.pi h g ∧ m.pi h g ≤ 1000000000000) (ham : 0 ≤ m.am h g ∧ m.am h g ≤ 1000000000000000000) (t : Td) (hp : 0 ≤ t.p ∧ t.p ≤ 100000) (hq : 0 ≤ t.q ∧ t.q ≤ 10000) :
    Calls Try.prog 74 #[.pointer (some ⟨L.gb h, g * 5, none⟩), t.agg] W fun e w' => e = .returned (.tuple #[]) ∧ MS w0 L0 m0 xb L (noteM m h g t.p t.q) o tv ts w' := by
  refine (note_any W (L.gb h) (g * 5) (m.la h g) (m.pi h g) (m.am h g) t.tk t.mr t.wi t.p t.q t.f (S.R.la h g hh hg) (S.R.pi h g hh hg) (S.R.am h g hh hg) hpi ham hp hq).mono ?_
  rintro e w' ⟨rfl, rfl⟩
  refine ⟨rfl, ?_⟩
  have hS : L.S m (L.gb h) := ⟨.gb h, by simp [PL.F, hh]⟩
  have hne : xb ≠ L.gb h := fun f => S.nx (f ▸ hS)
  have k : Kep (fun b => b = L.gb h) W (((W.setCell ⟨L.gb h, g * 5 + 2, none⟩ (.int .i64 t.p)).setCell ⟨L.gb h, g * 5 + 3, none⟩ (.int .i64 (m.pi h g + t.q))).setCell ⟨L.gb h, g * 5 + 4, none⟩ (.int .i64 (m.am h g + t.p * t.q))) :=
    (((Kep.refl (fun b => b = L.gb h) W).setCell (p := ⟨L.gb h, g * 5 + 2, none⟩) (.inl rfl) _).setCell (p := ⟨L.gb h, g * 5 + 3, none⟩) (.inl rfl) _).setCell (p := ⟨L.gb h, g * 5 + 4, none⟩) (.inl rfl) _
  have S2 := S.same (k.mono (S' := fun b => L.S m b ∨ b = xb) (fun b hb => .inl (.inl (hb ▸ hS)))) (S.R.note hh hg t.p t.q) (fun j v hv => (S.c j v hv).kep k hne) (S.pl.kep k hne) ⟨rfl, rfl, rfl⟩
  exact S2.later (((Kep.refl non _).alloc _).drewN 2)

theorem remove_ms {w0 : World} {L0 : PL} {m0 : Mt} {xb : Nat} {L : PL} {m : Mt} {o : Od} {tv : Value} {ts : List Td} {W : World} (S : MS w0 L0 m0 xb L m o tv ts W) (T1 : 1 ≤ m.T) (G1 : 1 ≤ m.G) (H1 : 1 ≤ m.H) {h g s : Nat} (q : at3 m h g s) (h60 : (m.bk h g s).length ≤ 1000000) {z : Od} {r : List Od} (hb : m.bk h g s = z :: r) {y : Nat} {ys : List Nat} (hob : L.ob h g s = y :: ys) :
    Calls Try.prog 75 #[.pointer (some ⟨L.qb h g s, 0, none⟩), .pointer (some ⟨y, 0, none⟩)] W fun e w' => e = .returned (.tuple #[]) ∧ ∃ v, MS w0 L0 m0 xb (L.setQ h g s v ys) (m.setBk h g s r) o tv ts w' := by
  have hi : (L.ob h g s)[0]? = some y := by rw [hob]; rfl
  refine (remove_q0 W L m S.R T1 G1 H1 q hi (by rw [S.R.ln h g s q]; exact h60)).mono ?_
  rintro e w' ⟨rfl, P⟩
  obtain ⟨v, R', hv⟩ := P.rep
  rw [hob, hb] at R'
  refine ⟨rfl, v, S.turn q (P.kp.mono (S' := L.S m) (fun b hb => .inl ?_)) R' ⟨rfl, rfl, rfl⟩ hv (fun i b hib => ⟨i + 1, by rw [hob]; simpa using hib⟩)⟩
  rcases hb with f | f
  · exact ⟨.qb h g s, by simp [PL.F, q, f]⟩
  · exact ⟨.qv h g s, by simp only [PL.F, q, if_true]; exact f⟩

theorem takeBack_ms {w0 : World} {L0 : PL} {m0 : Mt} {xb : Nat} {L : PL} {m : Mt} {o : Od} {tv : Value} {ts : List Td} {W : World} (S : MS w0 L0 m0 xb L m o tv ts W) {N : Int} (ok : m.Ok N) {h g s : Nat} (q : at3 m h g s) (h60 : (m.bk h g s).length ≤ 1000000) {z : Od} {r : List Od} (hb : m.bk h g s = z :: r) {y : Nat} {ys : List Nat} (hob : L.ob h g s = y :: ys) :
    Calls Try.prog 56 #[.pointer (some ⟨L.x, 0, none⟩), .pointer (some ⟨y, 0, none⟩)] W fun e w' => e = .returned (.tuple #[]) ∧ ∃ v, MS w0 L0 m0 xb (L.setQ h g s v ys) (releaseM (m.setBk h g s r) z.t.toNat h g s z) o tv ts w' := by
  have hi : (L.ob h g s)[0]? = some y := by rw [hob]; rfl
  have hz : (m.bk h g s)[0]? = some z := by rw [hb]; rfl
  have zt := (ok.od h g s z q.1 q.2.1 q.2.2 (by rw [hb]; exact List.mem_cons_self)).t
  refine (takeBack_any W L m N S.R ok ok.bN (t := z.t.toNat) z q hi hz (by rw [S.R.ln h g s q]; exact h60) (by omega)).mono ?_
  rintro e w' ⟨rfl, P⟩
  obtain ⟨v, R', hv⟩ := P.rep
  rw [hob, hb] at R'
  refine ⟨rfl, v, S.turn q (P.kp.mono (S' := L.S m) (fun b hb => .inl ?_)) R' (releaseM_dims _ _ _ _ _ _) hv (fun i b hib => ⟨i + 1, by rw [hob]; simpa using hib⟩)⟩
  rcases hb with f | f | f
  · exact ⟨.ab, by rw [f]; rfl⟩
  · exact ⟨.qb h g s, by simp [PL.F, q, f]⟩
  · exact ⟨.qv h g s, by simp only [PL.F, q, if_true]; exact f⟩
end

end Go.Proofs.Ytcfoobhihhndjaa
