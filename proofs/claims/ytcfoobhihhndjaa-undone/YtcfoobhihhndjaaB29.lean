/- The program's market: Place. -/
import Derived.Test.YtcfoobhihhndjaaB28
namespace Go.Proofs.Ytcfoobhihhndjaa

section
open Go.RowKit Go.Sort

theorem OdAt.setId {w : World} {x : Nat} {o : Od} (h : OdAt w x o) (n : Int) : OdAt (w.setCell ⟨x, 0, none⟩ (.int .i64 n)) x { o with id := n } := by
  intro j v hv
  by_cases e : j = 0
  · subst e
    obtain rfl : Value.int .i64 n = v := by simpa [Od.cells] using hv
    exact (h 0 _ rfl).set rfl _
  · have hv' : o.cells[j]? = some v := by
      rcases j with _ | j
      · exact absurd rfl e
      · exact hv
    exact (h j v hv').set_other (by intro q; injection q with _ q _; exact e q) rfl rfl _

/-- what a call that tells trades leaves -/
structure TdPost (w : World) (L : PL) (m m' : Mt) (v : Value) (ts : List Td) (w' : World) : Prop where
  kp : Kep (L.S m) w w'
  rep : ∃ L', (L'.x = L.x ∧ L'.rb = L.rb ∧ L'.bb = L.bb) ∧ (∀ b, L'.S m' b → L.S m b ∨ w.heap.size ≤ b) ∧ PRep w' L' m' ∧ (∀ b, v.ownBlock = some b → ¬ L'.S m' b)
  tr : w'.ownsRow w.heap.size 53 6 v ts.length (tdCells ts)

theorem ownsRow_base {w : World} {b b' : Nat} {e : TypeId} {size : Nat} {v : Value} {n : Nat} {xs : List Value} (h : w.ownsRow b e size v n xs) (hb : ∀ g, v.ownBlock = some g → b' ≤ g) : w.ownsRow b' e size v n xs := by
  refine ⟨h.1, ?_⟩
  rcases h.2 with hn | ⟨g, cap, cur, rfl, _, rest⟩
  · exact .inl hn
  · exact .inr ⟨g, cap, cur, rfl, hb g rfl, rest⟩

/-- in a Place, ahead of the match: the order's block, the market -/
structure PlSt (w : World) (L : PL) (m0 m : Mt) (o : Od) (W : World) : Prop where
  R : PRep W L m
  ob : OdAt W w.heap.size o
  pl : Plain W w.heap.size
  k : Kep (L.S m0) w W
  lx : w.heap.size < W.heap.size
  nx : ¬ L.S m w.heap.size
  xr : w.heap.size ≠ L.rb
  xb : w.heap.size ≠ L.bb
  d : m.T = m0.T ∧ m.G = m0.G ∧ m.H = m0.H

theorem PlSt.later {w : World} {L : PL} {m0 m : Mt} {o : Od} {W W' : World} (S : PlSt w L m0 m o W) (k : Kep non W W') : PlSt w L m0 m o W' :=
  ⟨S.R.later k, fun j v hv => (S.ob j v hv).kep k (fun f => f), S.pl.kep k (fun f => f), S.k.trans k.none, Nat.lt_of_lt_of_le S.lx k.size, S.nx, S.xr, S.xb, S.d⟩

theorem PlSt.start {w : World} {L : PL} {m : Mt} {N : Int} (R : PRep w L m) (ok : m.Ok N) (o : Od) : PlSt w L m m o (w.alloc (.cells #[.int .i64 o.id, .int .i64 o.t, .int .i64 o.h, .int .i64 o.g, .int .i64 o.s, .int .i64 o.p, .int .i64 o.q, .int .i64 o.w] 42)) := by
  have S := RfSt.start w o
  have hb := R.rblt ok.H1
  exact ⟨R.later S.kp, S.ob, ⟨_, _, heap_alloc_new w _⟩, S.kp.none, by simp, fun f => by have := R.lt ok.T1 ok.G1 _ f; omega, by omega, by omega, rfl, rfl, rfl⟩

/-- a cell of the market's was written -/
theorem PlSt.write {w : World} {L : PL} {m0 m m' : Mt} {o : Od} {W : World} (S : PlSt w L m0 m o W) {p : Addr} (v : Value) (hp : L.S m p.block) (R' : PRep (W.setCell p v) L m') (d : m'.T = m.T ∧ m'.G = m.G ∧ m'.H = m.H) : PlSt w L m0 m' o (W.setCell p v) := by
  have hS : ∀ b, L.S m' b → L.S m b := fun b hb => S_eq d.2.2 d.2.1 hb
  have hS0 : ∀ b, L.S m b → L.S m0 b := fun b hb => S_eq S.d.2.2 S.d.2.1 hb
  have hne : w.heap.size ≠ p.block := fun f => S.nx (f ▸ hp)
  have k : Kep (fun b => b = p.block) W (W.setCell p v) := (Kep.refl (fun b => b = p.block) W).setCell (.inl rfl) v
  exact ⟨R', fun j u hu => (S.ob j u hu).kep k hne, S.pl.set _ _, S.k.setCell (.inl (hS0 _ hp)) _, by have := S.lx; simpa using this, fun f => S.nx (hS _ f), S.xr, S.xb, d.1.trans S.d.1, d.2.1.trans S.d.2.1, d.2.2.trans S.d.2.2⟩

/-- the order's number was written -/
theorem PlSt.id {w : World} {L : PL} {m0 m : Mt} {o : Od} {W : World} (S : PlSt w L m0 m o W) (n : Int) : PlSt w L m0 m { o with id := n } (W.setCell ⟨w.heap.size, 0, none⟩ (.int .i64 n)) := by
  have k : Kep (fun b => b = w.heap.size) W (W.setCell ⟨w.heap.size, 0, none⟩ (.int .i64 n)) := (Kep.refl (fun b => b = w.heap.size) W).setCell (p := ⟨w.heap.size, 0, none⟩) (.inl rfl) _
  exact ⟨S.R.keep k (fun b hb e => S.nx (e ▸ hb)) (fun e => S.xr e.symm) (fun e => S.xb e.symm), S.ob.setId n, S.pl.set _ _, S.k.setCell (p := ⟨w.heap.size, 0, none⟩) (.inr (Nat.le_refl _)) _, by have := S.lx; simpa using this, S.nx, S.xr, S.xb, S.d⟩

theorem PlSt.num {w : World} {L : PL} {m0 m : Mt} {o : Od} {W : World} (S : PlSt w L m0 m o W) (n : Int) : PlSt w L m0 { m with nu := n } o (W.setCell ⟨L.x, 5, none⟩ (.int .i64 n)) :=
  S.write (p := ⟨L.x, 5, none⟩) _ ⟨.x, rfl⟩ (S.R.setNu n) ⟨rfl, rfl, rfl⟩

/-- hold, of an order that comes -/
theorem hold_pl {w : World} {L : PL} {m0 m : Mt} {o : Od} {W : World} (S : PlSt w L m0 m o W) {N : Int} (ok : m.Ok N) (ht : 0 ≤ o.t ∧ o.t < m.T) (hh : 0 ≤ o.h ∧ o.h < m.H) (hg : 0 ≤ o.g ∧ o.g < m.G) (hs : 0 ≤ o.s ∧ o.s ≤ 1) (hp : 1 ≤ o.p ∧ o.p ≤ 100000) (hq : 1 ≤ o.q ∧ o.q ≤ 10000) :
    Calls Try.prog 43 #[.pointer (some ⟨L.x, 0, none⟩), .pointer (some ⟨w.heap.size, 0, none⟩)] W fun e w' => e = .returned (.tuple #[]) ∧ PlSt w L m0 (holdM m o) o w' := by
  obtain ⟨t, et⟩ : ∃ t : Nat, o.t = t := ⟨o.t.toNat, by omega⟩
  obtain ⟨h, eh⟩ : ∃ h : Nat, o.h = h := ⟨o.h.toNat, by omega⟩
  obtain ⟨g, eg⟩ : ∃ g : Nat, o.g = g := ⟨o.g.toNat, by omega⟩
  have tot : o.t.toNat = t := by omega
  have toh : o.h.toNat = h := by omega
  have tog : o.g.toNat = g := by omega
  have bN := ok.bN
  by_cases e : o.s = 0
  · refine (hold_buy W L m S.R w.heap.size t o S.ob et (by omega) (by have := ok.mo t (by omega); omega) e (by omega) (by omega)).mono ?_
    rintro en w' ⟨rfl, k, rfl⟩
    refine ⟨rfl, ?_⟩
    have S1 := S.later ((Kep.refl non W).drewN k)
    rw [holdM, if_pos e, tot]
    exact S1.write (p := ⟨L.ab, t * 17, none⟩) _ ⟨.ab, rfl⟩ (S1.R.setMo t (by omega) _) ⟨rfl, rfl, rfl⟩
  · have e1 : o.s = 1 := by omega
    have h4 : h < 4 := by have := ok.H4; omega
    have g4 : g < 4 := by have := ok.G4; omega
    refine (hold_sell W L m S.R w.heap.size t h g o S.ob et eh eg (by omega) h4 g4 (by have := ok.pc t h g (by omega) (by omega) (by omega); omega) e1 (by omega)).mono ?_
    rintro en w' ⟨rfl, k, rfl⟩
    refine ⟨rfl, ?_⟩
    have S1 := S.later ((Kep.refl non W).drewN k)
    rw [holdM, if_neg e, tot, toh, tog]
    exact S1.write (p := ⟨L.ab, t * 17 + 1 + h * 4 + g, none⟩) _ ⟨.ab, rfl⟩ (S1.R.setPc t h g (by omega) h4 g4 _) ⟨rfl, rfl, rfl⟩

/-- behind the match: the order's block, the market, the trades -/
structure PmSt (w : World) (L : PL) (m0 : Mt) (L' : PL) (m : Mt) (o : Od) (tv : Value) (ts : List Td) (W : World) : Prop where
  R : PRep W L' m
  ob : OdAt W w.heap.size o
  pl : Plain W w.heap.size
  k : Kep (L.S m0) w W
  nx : ¬ L'.S m w.heap.size
  xr : w.heap.size ≠ L'.rb
  xb : w.heap.size ≠ L'.bb
  ex : L'.x = L.x ∧ L'.rb = L.rb ∧ L'.bb = L.bb
  sub : ∀ b, L'.S m b → L.S m0 b ∨ w.heap.size ≤ b
  tn : ∀ b, tv.ownBlock = some b → w.heap.size < b ∧ ¬ L'.S m b
  tr : W.ownsRow 0 53 6 tv ts.length (tdCells ts)

theorem PlSt.match {w : World} {L : PL} {m0 m : Mt} {o : Od} {W : World} (S : PlSt w L m0 m o W) {N : Int} {h g s : Nat} (M : Mid h g s N m o) :
    Calls Try.prog 44 #[.pointer (some ⟨L.x, 0, none⟩), .pointer (some ⟨w.heap.size, 0, none⟩)] W fun e w' => ∃ tv L', e = .returned tv ∧ PmSt w L m0 L' (matchM h g s (m.bk h g s) m o).1 (matchM h g s (m.bk h g s) m o).2.1 tv (matchM h g s (m.bk h g s) m o).2.2 w' := by
  refine (match_any W L m N (run_mid h g s N) S.R w.heap.size o M S.ob S.pl S.nx S.xr S.xb).mono ?_
  rintro e w' ⟨tv, L', rfl, T⟩
  have hS0 : ∀ b, L.S m b → L.S m0 b := fun b hb => S_eq S.d.2.2 S.d.2.1 hb
  refine ⟨tv, L', rfl, T.R, T.c, T.pl, S.k.trans' T.k (fun i hi => ?_), T.nx, T.xr, T.xq, ⟨T.ex.1, T.ex.2.2.2.1, T.ex.2.2.2.2.1⟩, fun b hb => ?_, fun b hb => ⟨?_, (T.tn b hb).2⟩, T.tr⟩
  · rcases hi with f | f
    · exact .inl (hS0 _ f)
    · exact .inr (by omega)
  · rcases T.sub b hb with f | f
    · exact .inl (hS0 _ f)
    · exact .inr (by have := S.lx; omega)
  · have := (T.tn b hb).1
    have := S.lx
    omega

theorem PmSt.later {w : World} {L : PL} {m0 : Mt} {L' : PL} {m : Mt} {o : Od} {tv : Value} {ts : List Td} {W W' : World} (S : PmSt w L m0 L' m o tv ts W) (k : Kep non W W') : PmSt w L m0 L' m o tv ts W' :=
  ⟨S.R.later k, fun j v hv => (S.ob j v hv).kep k (fun f => f), S.pl.kep k (fun f => f), S.k.trans k.none, S.nx, S.xr, S.xb, S.ex, S.sub, S.tn, ownsRow_kep S.tr k (fun _ _ f => f)⟩

/-- what is left is free again -/
theorem PmSt.free {w : World} {L : PL} {m0 : Mt} {L' : PL} {m m' : Mt} {o : Od} {tv : Value} {ts : List Td} {W : World} (S : PmSt w L m0 L' m o tv ts W) {p : Addr} (v : Value) (hp : L'.S m p.block) (R' : PRep (W.setCell p v) L' m') (d : m'.T = m.T ∧ m'.G = m.G ∧ m'.H = m.H) : TdPost w L m0 m' tv ts (W.setCell p v) := by
  have hS : ∀ b, L'.S m' b → L'.S m b := fun b hb => S_eq d.2.2 d.2.1 hb
  have k : Kep (fun b => b = p.block) W (W.setCell p v) := (Kep.refl (fun b => b = p.block) W).setCell (.inl rfl) v
  refine ⟨S.k.setCell (S.sub _ hp) _, ⟨L', S.ex, fun b hb => S.sub b (hS b hb), R', fun b hb f => (S.tn b hb).2 (hS b f)⟩, ?_⟩
  refine ownsRow_base (ownsRow_kep S.tr k (fun b hb f => (S.tn b hb).2 (f ▸ hp))) (fun b hb => ?_)
  have := (S.tn b hb).1
  omega

theorem release_pm {w : World} {L : PL} {m0 : Mt} {L' : PL} {m : Mt} {o : Od} {tv : Value} {ts : List Td} {W : World} (S : PmSt w L m0 L' m o tv ts W) {N : Int} (ok : m.Ok N) (ht : 0 ≤ o.t ∧ o.t < m.T) (hh : 0 ≤ o.h ∧ o.h < m.H) (hg : 0 ≤ o.g ∧ o.g < m.G) (hs : 0 ≤ o.s ∧ o.s ≤ 1) (hp : 1 ≤ o.p ∧ o.p ≤ 100000) (hq : 0 ≤ o.q ∧ o.q ≤ 10000) :
    Calls Try.prog 47 #[.pointer (some ⟨L.x, 0, none⟩), .pointer (some ⟨w.heap.size, 0, none⟩)] W fun e w' => e = .returned (.tuple #[]) ∧ TdPost w L m0 (releaseM m o.t.toNat o.h.toNat o.g.toNat o.s.toNat o) tv ts w' ∧ w'.cell? ⟨w.heap.size, 0, none⟩ = some (.int .i64 o.id) := by
  obtain ⟨t, et⟩ : ∃ t : Nat, o.t = t := ⟨o.t.toNat, by omega⟩
  obtain ⟨h, eh⟩ : ∃ h : Nat, o.h = h := ⟨o.h.toNat, by omega⟩
  obtain ⟨g, eg⟩ : ∃ g : Nat, o.g = g := ⟨o.g.toNat, by omega⟩
  have tot : o.t.toNat = t := by omega
  have toh : o.h.toNat = h := by omega
  have tog : o.g.toNat = g := by omega
  have bN := ok.bN
  have hab : w.heap.size ≠ L'.ab := fun f => S.nx ⟨.ab, by rw [f]; rfl⟩
  rw [tot, toh, tog, ← S.ex.1]
  by_cases e : o.s = 0
  · refine (release_buy W L' m S.R w.heap.size t o S.ob et (by omega) (by have := ok.mo t (by omega); omega) e (by omega) (by omega)).mono ?_
    rintro en w' ⟨rfl, k, rfl⟩
    have S1 := S.later ((Kep.refl non W).drewN k)
    refine ⟨rfl, ?_, ?_⟩
    · rw [releaseM, if_pos (by omega)]
      exact S1.free (p := ⟨L'.ab, t * 17, none⟩) _ ⟨.ab, rfl⟩ (S1.R.setMo t (by omega) _) ⟨rfl, rfl, rfl⟩
    · rw [World.cell?_setCell_other _ _ _ _ (by intro q; injection q with q _ _; exact hab q.symm)]
      exact (S1.ob 0 _ rfl).cell
  · have e1 : o.s = 1 := by omega
    have h4 : h < 4 := by have := ok.H4; omega
    have g4 : g < 4 := by have := ok.G4; omega
    refine (release_sell W L' m S.R w.heap.size t h g o S.ob et eh eg (by omega) h4 g4 (by have := ok.pc t h g (by omega) (by omega) (by omega); omega) e1 (by omega)).mono ?_
    rintro en w' ⟨rfl, k, rfl⟩
    have S1 := S.later ((Kep.refl non W).drewN k)
    refine ⟨rfl, ?_, ?_⟩
    · rw [releaseM, if_neg (by omega)]
      exact S1.free (p := ⟨L'.ab, t * 17 + 1 + h * 4 + g, none⟩) _ ⟨.ab, rfl⟩ (S1.R.setPc t h g (by omega) h4 g4 _) ⟨rfl, rfl, rfl⟩
    · rw [World.cell?_setCell_other _ _ _ _ (by intro q; injection q with q _ _; exact hab q.symm)]
      exact (S1.ob 0 _ rfl).cell

theorem add_pm {w : World} {L : PL} {m0 : Mt} {L' : PL} {m : Mt} {o : Od} {tv : Value} {ts : List Td} {W : World} (S : PmSt w L m0 L' m o tv ts W) {N : Int} (ok : m.Ok N) {h g s : Nat} (q : at3 m h g s) (eh : o.h = h) (eg : o.g = g) (es : o.s = s) :
    Calls Try.prog 46 #[.pointer (some ⟨L'.qb h g s, 0, none⟩), .pointer (some ⟨w.heap.size, 0, none⟩)] W fun e w' => e = .returned (.tuple #[]) ∧ TdPost w L m0 (waitM m o) tv ts w' ∧ w'.cell? ⟨w.heap.size, 0, none⟩ = some (.int .i64 o.id) := by
  have ln := S.R.ln h g s q
  have h60 : (m.bk h g s).length ≤ 60 := Nat.le_trans (len_bk q) ok.a60
  refine (add_q W L' m N S.R ok o q S.ob S.pl S.nx S.xr S.xb (by rw [ln]; omega)).mono ?_
  rintro e w' ⟨rfl, Q⟩
  have hkS : ∀ b, (b = L'.qb h g s ∨ (L'.qv h g s).ownBlock = some b) → L'.S m b := fun b f => by
    rcases f with f | f
    · exact ⟨.qb h g s, by simp [PL.F, q, f]⟩
    · exact ⟨.qv h g s, by simp only [PL.F, q, if_true]; exact f⟩
  have hid := ((S.ob 0 _ rfl).kep Q.kp (fun f => S.nx (hkS _ f))).cell
  obtain ⟨v, R', hv⟩ := Q.rep
  have lz : w.heap.size < W.heap.size := S.pl.lt
  have ltv : ∀ b, tv.ownBlock = some b → b < W.heap.size := fun b hb => (S.tr.lt b hb).2
  have sub : ∀ b, (L'.setQ h g s v (putAt (L'.ob h g s) (slot (ahAt (m.bk h g s) s o) (L'.ob h g s).length) w.heap.size)).S (m.setBk h g s (putAt (m.bk h g s) (slot (ahAt (m.bk h g s) s o) (L'.ob h g s).length) o)) b → L'.S m b ∨ W.heap.size ≤ b ∨ b = w.heap.size := by
    rintro b ⟨j, hj⟩
    rcases F_setQ hj with ⟨e, _, _⟩ | ⟨_, e⟩ | ⟨i, _, e⟩
    · exact .inl ⟨j, e⟩
    · rcases hv b e with f | f
      · exact .inl (hkS _ (.inr f))
      · exact .inr (.inl f)
    · have hm := List.mem_of_getElem? e
      rcases mem_put hm with f | f
      · exact .inr (.inr f)
      · obtain ⟨i', e'⟩ := List.mem_iff_getElem?.1 f
        exact .inl ⟨.ob h g s i', by simp only [PL.F, q, if_true]; exact e'⟩
  have eW : waitM m o = m.setBk h g s (putAt (m.bk h g s) (slot (ahAt (m.bk h g s) s o) (L'.ob h g s).length) o) := by
    unfold waitM
    rw [show o.h.toNat = h by omega, show o.g.toNat = g by omega, show o.s.toNat = s by omega, ln]
  refine ⟨rfl, ?_, hid⟩
  rw [eW]
  refine ⟨S.k.trans' Q.kp (fun i hi => S.sub i (hkS i hi)), ⟨L'.setQ h g s v (putAt (L'.ob h g s) (slot (ahAt (m.bk h g s) s o) (L'.ob h g s).length) w.heap.size), S.ex, fun b hb => ?_, R', fun b hb f => ?_⟩, ?_⟩
  · rcases sub b hb with f | f | f
    · exact S.sub b f
    · exact .inr (by omega)
    · exact .inr (by omega)
  · rcases sub b f with f | f | f
    · exact (S.tn b hb).2 f
    · have := ltv b hb; omega
    · have := (S.tn b hb).1; omega
  · refine ownsRow_base (ownsRow_kep S.tr Q.kp (fun b hb f => (S.tn b hb).2 (hkS _ f))) (fun b hb => ?_)
    have := (S.tn b hb).1
    omega
end

/- The program's market: Place, whole. -/
section
open Go.RowKit Go.Sort

set_option maxHeartbeats 2000000 in
set_option maxRecDepth 100000 in
theorem place_no (w : World) (L : PL) (m : Mt) (N : Int) (R : PRep w L m) (ok : m.Ok N) (o : Od) (hE : placeE m o ≠ 0) :
    Calls Try.prog 19 #[.pointer (some ⟨L.x, 0, none⟩), o.agg] w fun e w' => e = .returned (.tuple #[.int .i64 0, .slice none 0 0, .int .i64 (placeE m o)]) ∧ Kep non w w' := by
  have S0 := PlSt.start R ok o
  have HRf := hide (refusal_any _ L m N S0.R ok o)
  have K0 : Kep non w (w.alloc (.cells #[.int .i64 o.id, .int .i64 o.t, .int .i64 o.h, .int .i64 o.g, .int .i64 o.s, .int .i64 o.p, .int .i64 o.q, .int .i64 o.w] 42)) := (Kep.refl _ _).alloc _
  have HK := hide K0
  have e1 : (placeE m o != 0) = true := by simpa using hE
  unfold Od.agg at HRf ⊢
  clear S0 K0 hE R ok
  generalize placeE m o = e at *
  go_enter Try.func19, Try.ntmps19
  go_wp2_with (go_at_call 42; refine HRf.out.mono ?_; rintro e w1 ⟨rfl, kr⟩)
  exact bodyPost_ret (v := .tuple #[.int .i64 0, .slice none 0 0, .int .i64 e]) (by simp [results, Try.results19, go_sem]) rfl ⟨rfl, HK.out.trans kr⟩

set_option maxHeartbeats 4000000 in
set_option maxRecDepth 100000 in
theorem place_yes (w : World) (L : PL) (m : Mt) (N : Int) (R : PRep w L m) (I : m.Inv N) (hn : m.nu + 1 ≤ N) (o : Od) (hE : placeE m o = 0) :
    Calls Try.prog 19 #[.pointer (some ⟨L.x, 0, none⟩), o.agg] w fun e w' => ∃ v, e = .returned (.tuple #[.int .i64 (m.nu + 1), v, .int .i64 0]) ∧ TdPost w L m (settleM (placed m o).1 (placed m o).2.1) v (placed m o).2.2 w' := by
  have ok := I.ok
  have i := (refE1_zero (placeE_zero hE).1)
  obtain ⟨bs, bw, bp, bq⟩ := fit_bd i.2.2.2
  obtain ⟨h, eh⟩ : ∃ h : Nat, o.h = h := ⟨o.h.toNat, by have := i.2.1.1; omega⟩
  obtain ⟨g, eg⟩ : ∃ g : Nat, o.g = g := ⟨o.g.toNat, by have := i.2.2.1.1; omega⟩
  obtain ⟨s, es⟩ : ∃ s : Nat, o.s = s := ⟨o.s.toNat, by omega⟩
  have hh : h < m.H := by have := i.2.1.2; omega
  have hg : g < m.G := by have := i.2.2.1.2; omega
  have S0 := PlSt.start R ok o
  have HRf := hide (refusal_any _ L m N S0.R ok o)
  rw [hE] at HRf
  have M0 := I.start hn hE eh eg es
  obtain ⟨M1, l1, n1, x, ex⟩ := I.mid hn hE eh eg es
  have ok1 : (placed m o).1.Ok N := M1.ok
  have nu0 := I.nu
  have bN := I.bN
  have HH := hide (fun W (S : PlSt w L m { m with nu := m.nu + 1 } { o with id := m.nu + 1 } W) => hold_pl S (N := N) (by
    refine ⟨ok.bN, ok.T1, ok.T8, ok.G1, ok.G4, ok.H1, ok.H4, ok.rt, ok.mo, ok.pc, ok.l20, ok.ld, ok.a60, fun a b c x ha hb hc hx => (ok.od a b c x ha hb hc hx).of (by show m.nu ≤ m.nu + 1; omega) rfl, ⟨by show 0 ≤ m.nu + 1; omega, hn⟩, ok.ho, ok.tm⟩) i.1 i.2.1 i.2.2.1 bs bp bq)
  have eP : placed m o = matchM h g (otherS s) ((holdM { m with nu := m.nu + 1 } { o with id := m.nu + 1 }).bk h g (otherS s)) (holdM { m with nu := m.nu + 1 } { o with id := m.nu + 1 }) { o with id := m.nu + 1 } := by
    unfold placed
    rw [show o.h.toNat = h by omega, show o.g.toNat = g by omega, show o.s.toNat = s by omega, bk_hold]
  have HM := hide (fun W (S : PlSt w L m (holdM { m with nu := m.nu + 1 } { o with id := m.nu + 1 }) { o with id := m.nu + 1 } W) => S.match M0)
  rw [← eP] at HM
  have q1 : at3 (placed m o).1 h g s := ⟨M1.q.1, M1.q.2.1, by omega⟩
  have HS := hide (fun W L' tv ts (S : PmSt w L m L' (placed m o).1 (placed m o).2.1 tv ts W) => show Calls Try.prog 45 #[.pointer (some ⟨L.x, 0, none⟩), .pointer (some ⟨w.heap.size, 0, none⟩)] W fun e w' => e = .returned (.pointer (some ⟨L'.qb h g s, 0, none⟩)) ∧ ∃ k, w' = W.drewN k by have := sideOf_any W L' _ S.R w.heap.size h g s _ S.ob (by rw [ex]; exact eh) (by rw [ex]; exact eg) (by rw [ex]; exact es) q1; rwa [S.ex.1] at this)
  have HA := hide (fun W L' tv ts (S : PmSt w L m L' (placed m o).1 (placed m o).2.1 tv ts W) => add_pm S ok1 q1 (by rw [ex]; exact eh) (by rw [ex]; exact eg) (by rw [ex]; exact es))
  have HRl := hide (fun W L' tv ts (S : PmSt w L m L' (placed m o).1 (placed m o).2.1 tv ts W) => release_pm S ok1 M1.t ⟨by rw [ex]; exact i.2.1.1, by have := M1.q.1; rw [ex]; show o.h < _; omega⟩ ⟨by rw [ex]; exact i.2.2.1.1, by have := M1.q.2.1; rw [ex]; show o.g < _; omega⟩ ⟨by rw [ex]; exact bs.1, by rw [ex]; exact bs.2⟩ M1.p M1.n)
  have hid : (placed m o).2.1.id = m.nu + 1 := by rw [ex]
  rw [hid] at HA HRl
  have hww : (placed m o).2.1.w = o.w := by rw [ex]
  have HW := hide hww
  have HSt : Hid (settleM (placed m o).1 (placed m o).2.1 = if 0 < (placed m o).2.1.q ∧ (o.w = 0 ∨ o.w = 3) then waitM (placed m o).1 (placed m o).2.1 else releaseM (placed m o).1 (placed m o).2.1.t.toNat (placed m o).2.1.h.toNat (placed m o).2.1.g.toNat (placed m o).2.1.s.toNat (placed m o).2.1) := hide (by rw [settleM, hww])
  have H0 := hide S0
  unfold Od.agg at HRf ⊢
  clear S0 M0 M1 l1 n1 ex ok1 q1 hE eP hid hww I R ok i eh eg es hh hg bs bp bq
  generalize placed m o = P at *
  go_enter Try.func19, Try.ntmps19
  go_wp2_with fail
  refine HRf.out.mono ?_
  rintro e w1 ⟨rfl, kr⟩
  have S1 := H0.out.later kr
  obtain ⟨cN, fN⟩ := S1.R.cN
  obtain ⟨c0, f0⟩ := S1.ob 0 _ rfl
  have ne : L.x ≠ w.heap.size := fun f => S1.nx ⟨.x, by rw [← f]; rfl⟩
  have ne' := ne.symm
  have HS1 := hide ((S1.num (m.nu + 1)).id (m.nu + 1))
  obtain ⟨nu0, nu1⟩ := nu0
  obtain ⟨bN0, bN1⟩ := bN
  have nu2 : m.nu ≤ 50000000 := by omega
  clear S1 kr HRf H0
  go_wp2_with fail
  refine (HH.out _ HS1.out).mono ?_
  rintro e w2 ⟨rfl, S2⟩
  clear cN fN c0 f0 ne ne' HS1 HH
  have HS2 := hide S2
  clear S2
  go_wp2_with fail
  refine (HM.out _ HS2.out).mono ?_
  rintro e w3 ⟨tv, L', rfl, S3⟩
  have o6 := (S3.ob 6 _ rfl).cell
  have o7 := (S3.ob 7 _ rfl).cell
  rw [HW.out] at o7
  have HS3 := hide S3
  clear S3 HS2 HM
  by_cases hq : 0 < P.2.1.q
  · by_cases hw : o.w = 0 ∨ o.w = 3
    · have hE := hide (HSt.out.trans (if_pos ⟨hq, hw⟩))
      have hw' : (o.w == 0) = true ∨ ((o.w == 0) = false ∧ (o.w == 3) = true) := by
        rcases hw with f | f
        · exact .inl (by rw [f]; rfl)
        · exact .inr ⟨by rw [f]; rfl, by rw [f]; rfl⟩
      clear hw
      rcases hw' with f0 | ⟨f0, f3⟩
      all_goals
        go_wp2_with fail
        refine (HS.out _ _ _ _ HS3.out).mono ?_
        rintro e w4 ⟨rfl, k, rfl⟩
        go_wp2_with fail
        refine (HA.out _ _ _ _ (HS3.out.later ((Kep.refl _ _).drewN k))).mono ?_
        rintro e w5 ⟨rfl, T, c0⟩
        go_wp2
        exact bodyPost_ret (v := .tuple #[.int .i64 (m.nu + 1), tv, .int .i64 0]) (by simp [results, Try.results19, go_sem]) rfl ⟨tv, rfl, by rw [hE.out]; exact T⟩
    · have hE := hide (HSt.out.trans (if_neg (fun f => hw f.2)))
      have f0 : (o.w == 0) = false := beq_eq_false_iff_ne.2 (fun f => hw (.inl f))
      have f3 : (o.w == 3) = false := beq_eq_false_iff_ne.2 (fun f => hw (.inr f))
      clear hw
      go_wp2_with fail
      refine (HRl.out _ _ _ _ HS3.out).mono ?_
      rintro e w5 ⟨rfl, T, c0⟩
      go_wp2
      exact bodyPost_ret (v := .tuple #[.int .i64 (m.nu + 1), tv, .int .i64 0]) (by simp [results, Try.results19, go_sem]) rfl ⟨tv, rfl, by rw [hE.out]; exact T⟩
  · have hE := hide (HSt.out.trans (if_neg (fun f => hq f.1)))
    go_wp2_with fail
    refine (HRl.out _ _ _ _ HS3.out).mono ?_
    rintro e w5 ⟨rfl, T, c0⟩
    go_wp2
    exact bodyPost_ret (v := .tuple #[.int .i64 (m.nu + 1), tv, .int .i64 0]) (by simp [results, Try.results19, go_sem]) rfl ⟨tv, rfl, by rw [hE.out]; exact T⟩

theorem place_any (w : World) (L : PL) (m : Mt) (N : Int) (R : PRep w L m) (I : m.Inv N) (hn : m.nu + 1 ≤ N) (o : Od) :
    Calls Try.prog 19 #[.pointer (some ⟨L.x, 0, none⟩), o.agg] w fun e w' => ∃ v, e = .returned (.tuple #[.int .i64 (placeI m o), v, .int .i64 (placeE m o)]) ∧ TdPost w L m (placeM m o) v (placeT m o) w' := by
  by_cases hE : placeE m o = 0
  · unfold placeI placeM placeT
    rw [if_pos hE, if_pos hE, if_pos hE, hE]
    exact place_yes w L m N R I hn o hE
  · refine (place_no w L m N R I.ok o hE).mono ?_
    rintro e w' ⟨rfl, k⟩
    unfold placeI placeM placeT
    rw [if_neg hE, if_neg hE, if_neg hE]
    exact ⟨_, rfl, k.none, ⟨L, ⟨rfl, rfl, rfl⟩, fun _ hb => .inl hb, R.later k, fun b hb => by simp [Value.ownBlock] at hb⟩, World.ownsRow_nil _ _ _ _⟩
end

end Go.Proofs.Ytcfoobhihhndjaa
