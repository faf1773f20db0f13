/- The program's market: lessen. -/
import Derived.Test.YtcfoobhihhndjaaB18
import Derived.Test.YtcfoobhihhndjaaB29
import Derived.Test.YtcfoobhihhndjaaB36
namespace Go.Proofs.Ytcfoobhihhndjaa

section
open Go.RowKit Go.Sort

/-- what is held for an order is free no more -/
def holdH (m : Mt) (t h g s : Nat) (o : Od) : Mt := if s = 0 then m.setMo t (m.mo t - o.p * o.q) else m.setPc t h g (m.pc t h g - o.q)

structure HPost (w : World) (L : PL) (m' : Mt) (w' : World) : Prop where
  kp : Kep (fun b => b = L.ab) w w'
  rep : PRep w' L m'

/-- an order and its market, as release and hold want them -/
structure HOk (m : Mt) (h g s : Nat) (o : Od) : Prop where
  T : 0 ≤ o.t ∧ o.t < m.T
  h4 : h < 4
  g4 : g < 4
  s2 : s < 2
  eh : o.h = h
  eg : o.g = g
  es : o.s = s
  p : 0 ≤ o.p ∧ o.p ≤ 100000
  q : 0 ≤ o.q ∧ o.q ≤ 10000
  mo : 0 ≤ m.mo o.t.toNat ∧ m.mo o.t.toNat ≤ 10000000000000
  pc : 0 ≤ m.pc o.t.toNat h g ∧ m.pc o.t.toNat h g ≤ 10000000000000

theorem release_h (w : World) (L : PL) (m : Mt) (R : PRep w L m) {x h g s : Nat} {o : Od} (ho : OdAt w x o) (O : HOk m h g s o) :
    Calls Try.prog 47 #[.pointer (some ⟨L.x, 0, none⟩), .pointer (some ⟨x, 0, none⟩)] w fun e w' => e = .returned (.tuple #[]) ∧ HPost w L (releaseM m o.t.toNat h g s o) w' := by
  have et : o.t = (o.t.toNat : Int) := by have := O.T; omega
  have ht : o.t.toNat < m.T := by have := O.T; omega
  by_cases e : s = 0
  · subst e
    refine (release_buy w L m R x _ o ho et ht O.mo O.es O.p O.q).mono ?_
    rintro e w' ⟨rfl, k, rfl⟩
    rw [releaseM, if_pos rfl]
    exact ⟨rfl, ((Kep.refl (fun b => b = L.ab) w).drewN k).setCell (p := ⟨L.ab, o.t.toNat * 17, none⟩) (.inl rfl) _, (R.later ((Kep.refl non w).drewN k)).setMo _ ht _⟩
  · obtain rfl : s = 1 := by have := O.s2; omega
    refine (release_sell w L m R x _ h g o ho et O.eh O.eg ht O.h4 O.g4 O.pc O.es O.q).mono ?_
    rintro e w' ⟨rfl, k, rfl⟩
    rw [releaseM, if_neg (by decide)]
    exact ⟨rfl, ((Kep.refl (fun b => b = L.ab) w).drewN k).setCell (p := ⟨L.ab, o.t.toNat * 17 + 1 + h * 4 + g, none⟩) (.inl rfl) _, (R.later ((Kep.refl non w).drewN k)).setPc _ h g ht O.h4 O.g4 _⟩

theorem hold_h (w : World) (L : PL) (m : Mt) (R : PRep w L m) {x h g s : Nat} {o : Od} (ho : OdAt w x o) (O : HOk m h g s o) :
    Calls Try.prog 43 #[.pointer (some ⟨L.x, 0, none⟩), .pointer (some ⟨x, 0, none⟩)] w fun e w' => e = .returned (.tuple #[]) ∧ HPost w L (holdH m o.t.toNat h g s o) w' := by
  have et : o.t = (o.t.toNat : Int) := by have := O.T; omega
  have ht : o.t.toNat < m.T := by have := O.T; omega
  by_cases e : s = 0
  · subst e
    refine (hold_buy w L m R x _ o ho et ht O.mo O.es O.p O.q).mono ?_
    rintro e w' ⟨rfl, k, rfl⟩
    rw [holdH, if_pos rfl]
    exact ⟨rfl, ((Kep.refl (fun b => b = L.ab) w).drewN k).setCell (p := ⟨L.ab, o.t.toNat * 17, none⟩) (.inl rfl) _, (R.later ((Kep.refl non w).drewN k)).setMo _ ht _⟩
  · obtain rfl : s = 1 := by have := O.s2; omega
    refine (hold_sell w L m R x _ h g o ho et O.eh O.eg ht O.h4 O.g4 O.pc O.es O.q).mono ?_
    rintro e w' ⟨rfl, k, rfl⟩
    rw [holdH, if_neg (by decide)]
    exact ⟨rfl, ((Kep.refl (fun b => b = L.ab) w).drewN k).setCell (p := ⟨L.ab, o.t.toNat * 17 + 1 + h * 4 + g, none⟩) (.inl rfl) _, (R.later ((Kep.refl non w).drewN k)).setPc _ h g ht O.h4 O.g4 _⟩

theorem releaseM_bk (m : Mt) (t h g s : Nat) (o : Od) : (releaseM m t h g s o).bk = m.bk ∧ (releaseM m t h g s o).T = m.T ∧ (releaseM m t h g s o).G = m.G ∧ (releaseM m t h g s o).H = m.H := by
  unfold releaseM; split <;> exact ⟨rfl, rfl, rfl, rfl⟩
theorem holdM_bk' (m : Mt) (t h g s : Nat) (o : Od) : (holdH m t h g s o).bk = m.bk ∧ (holdH m t h g s o).T = m.T ∧ (holdH m t h g s o).G = m.G ∧ (holdH m t h g s o).H = m.H := by
  unfold holdH; split <;> exact ⟨rfl, rfl, rfl, rfl⟩

/-- fewer pieces of an order -/
def lessM (m : Mt) (h g s i : Nat) (o : Od) (n : Int) : Mt :=
  holdH ((releaseM m o.t.toNat h g s o).setBk h g s ((m.bk h g s).set i { o with q := n })) o.t.toNat h g s { o with q := n }

set_option maxRecDepth 100000 in
set_option maxHeartbeats 4000000 in
theorem lessen_any (w : World) (L : PL) (m : Mt) (R : PRep w L m) {t id : Int} {h g s i x : Nat} {o : Od} (S : Spot m t id h g s i o) (hi : (L.ob h g s)[i]? = some x) (O : HOk m h g s o) (n : Int) (O2 : HOk ((releaseM m o.t.toNat h g s o).setBk h g s ((m.bk h g s).set i { o with q := n })) h g s { o with q := n }) :
    Calls Try.prog 54 #[.pointer (some ⟨L.x, 0, none⟩), .pointer (some ⟨x, 0, none⟩), .int .i64 n] w fun e w' => e = .returned (.tuple #[]) ∧ PPost w L m (lessM m h g s i o n) w' := by
  have hod : OdAt w x o := fun j v hv => R.oc h g s i x o S.q hi S.ho j v hv
  have xab : ¬ x = L.ab := fun f => by
    have := R.inj (.ob h g s i) .ab x (by simp only [PL.F, S.q, if_true]; exact hi) (by simp only [PL.F]; exact congrArg some f.symm)
    cases this
  have HL := hide (release_h w L m R hod O)
  have HF := hide (show ∀ W, HPost w L (releaseM m o.t.toNat h g s o) W → OdAt W x o ∧ Calls Try.prog 43 #[.pointer (some ⟨L.x, 0, none⟩), .pointer (some ⟨x, 0, none⟩)] (W.setCell ⟨x, 6, none⟩ (.int .i64 n)) fun e w' => e = .returned (.tuple #[]) ∧ PPost w L m (lessM m h g s i o n) w' from fun W P => by
    have od1 : OdAt W x o := fun j v hv => (hod j v hv).kep P.kp xab
    have q1 : at3 (releaseM m o.t.toNat h g s o) h g s := by
      obtain ⟨_, _, e2, e3⟩ := releaseM_bk m o.t.toNat h g s o
      exact ⟨by rw [e3]; exact S.q.1, by rw [e2]; exact S.q.2.1, S.q.2.2⟩
    have R1 := P.rep.setOq q1 hi (o := o) (by rw [(releaseM_bk m o.t.toNat h g s o).1]; exact S.ho) n
    rw [(releaseM_bk m o.t.toNat h g s o).1] at R1
    refine ⟨od1, (hold_h _ L _ R1 (od1.setQ n) O2).mono fun e w' ⟨h1, h2⟩ => ⟨h1, ?_⟩⟩
    have dim : (lessM m h g s i o n).H = m.H ∧ (lessM m h g s i o n).G = m.G := by
      obtain ⟨_, _, e2, e3⟩ := releaseM_bk m o.t.toNat h g s o
      obtain ⟨_, _, f2, f3⟩ := holdM_bk' ((releaseM m o.t.toNat h g s o).setBk h g s ((m.bk h g s).set i { o with q := n })) o.t.toNat h g s { o with q := n }
      exact ⟨f3.trans e3, f2.trans e2⟩
    refine ⟨?_, L, ⟨rfl, rfl, rfl⟩, fun b hb => .inl (S_eq (m := m) dim.1 dim.2 hb), h2.rep⟩
    have sab : L.S m L.ab := ⟨.ab, rfl⟩
    have sx : L.S m x := ⟨.ob h g s i, by simp only [PL.F, S.q, if_true]; exact hi⟩
    refine ((P.kp.mono (S' := L.S m) (fun b f => .inl (f ▸ sab))).setCell (p := ⟨x, 6, none⟩) (.inl sx) _).trans (h2.kp.mono (fun b f => .inl (f ▸ sab))))
  clear hod xab R
  go_enter Try.func54, Try.ntmps54
  go_wp2_with fail
  refine HL.out.mono ?_
  rintro e W ⟨rfl, P⟩
  obtain ⟨od1, hc⟩ := HF.out W P
  have HC := hide hc
  obtain ⟨c6, f6⟩ := od1 6 _ rfl
  clear P hc HF HL od1
  go_wp2_with fail
  refine HC.out.mono ?_
  rintro e w' ⟨rfl, P⟩
  have HP := hide P
  clear P
  go_wp2
  go_end0
  exact ⟨rfl, HP.out⟩
end

/- The program's market: replace. -/
section
open Go.RowKit Go.Sort

/-- an order that waits no more, and is still there -/
structure Loose (w : World) (L : PL) (m : Mt) (x : Nat) (o : Od) : Prop where
  R : PRep w L m
  od : OdAt w x o
  pl : Plain w x
  nS : ¬ L.S m x
  nr : x ≠ L.rb
  nb : x ≠ L.bb

structure BkPost (w : World) (L : PL) (m m' : Mt) (x : Nat) (o : Od) (w' : World) : Prop where
  kp : Kep (L.S m) w w'
  rep : ∃ L', (L'.x = L.x ∧ L'.rb = L.rb ∧ L'.bb = L.bb) ∧ (∀ b, L'.S m' b → L.S m b ∨ w.heap.size ≤ b) ∧ Loose w' L' m' x o

theorem Loose.later {w w' : World} {L : PL} {m : Mt} {x : Nat} {o : Od} (h : Loose w L m x o) (k : Kep non w w') : Loose w' L m x o :=
  ⟨h.R.later k, fun j v hv => (h.od j v hv).kep k (fun f => f), h.pl.kep k (fun f => f), h.nS, h.nr, h.nb⟩

theorem BkPost.after {w W w' : World} {L : PL} {m m' : Mt} {x : Nat} {o : Od} (k : Kep non w W) (B : BkPost W L m m' x o w') : BkPost w L m m' x o w' := by
  obtain ⟨L', e, hs, lo⟩ := B.rep
  exact ⟨k.none.trans B.kp, L', e, fun b hb => (hs b hb).imp id fun f => Nat.le_trans k.size f, lo⟩

theorem back_loose (w : World) (L : PL) (m : Mt) (N : Int) (R : PRep w L m) (ok : m.Ok N) {t id : Int} {h g s i x : Nat} {o : Od} (S : Spot m t id h g s i o) (hi : (L.ob h g s)[i]? = some x) :
    Calls Try.prog 56 #[.pointer (some ⟨L.x, 0, none⟩), .pointer (some ⟨x, 0, none⟩)] w fun e w' => e = .returned (.tuple #[]) ∧ BkPost w L m (backM m h g s i o) x o w' := by
  have oo := ok.od h g s o S.q.1 S.q.2.1 S.q.2.2 (List.mem_of_getElem? S.ho)
  have hF : L.F m (.ob h g s i) = some x := by simp only [PL.F, S.q, if_true]; exact hi
  have hSx : L.S m x := ⟨_, hF⟩
  have hod : OdAt w x o := fun j v hv => R.oc h g s i x o S.q hi S.ho j v hv
  have hpl : Plain w x := R.oz h g s i x S.q hi
  refine (takeBack_any w L m N R ok ok.bN o S.q hi S.ho ?_ (t := o.t.toNat) (by have := oo.t; omega)).mono fun e w' ⟨h1, h2⟩ => ⟨h1, ?_⟩
  · have := R.ln h g s S.q
    have h60 := ok.a60
    have := len_bk (m := m) S.q
    omega
  · have dims := releaseM_bk (m.setBk h g s ((m.bk h g s).eraseIdx i)) o.t.toNat h g s o
    have hG : (backM m h g s i o).G = m.G := dims.2.2.1
    have hH : (backM m h g s i o).H = m.H := dims.2.2.2
    have hys : ∀ j b : Nat, ((L.ob h g s).eraseIdx i)[j]? = some b → ∃ j' : Nat, (L.ob h g s)[j']? = some b := fun j b hj => by
      obtain ⟨n, hn⟩ := List.mem_iff_getElem?.1 (List.mem_of_mem_eraseIdx (List.mem_of_getElem? hj))
      exact ⟨n, hn⟩
    have P := h2.pp S.q hG hH hys
    obtain ⟨v, R', hv⟩ := h2.rep
    have nk : ¬ (x = L.ab ∨ x = L.qb h g s ∨ (L.qv h g s).ownBlock = some x) := by
      rintro (f | f | f)
      · have := R.inj _ .ab x hF (by simp only [PL.F]; exact congrArg some f.symm)
        cases this
      · have := R.inj _ (.qb h g s) x hF (by simp only [PL.F, S.q, if_true]; exact congrArg some f.symm)
        cases this
      · have := R.inj _ (.qv h g s) x hF (by simp only [PL.F, S.q, if_true]; exact f)
        cases this
    refine ⟨P.kp, L.setQ h g s v ((L.ob h g s).eraseIdx i), ⟨rfl, rfl, rfl⟩, sub_setQ hG hH S.q hv hys, R', fun j u hu => (hod j u hu).kep h2.kp nk, hpl.kep h2.kp nk, ?_, fun f => R.nrb (f ▸ hSx), fun f => R.nbb (f ▸ hSx)⟩
    intro hb
    have hb' : (L.setQ h g s v ((L.ob h g s).eraseIdx i)).S (m.setBk h g s []) x := S_eq (L := L.setQ h g s v ((L.ob h g s).eraseIdx i)) (m := m.setBk h g s []) hH hG hb
    obtain ⟨j, hj⟩ := hb'
    rcases F_setQ hj with ⟨e, _, e3⟩ | ⟨_, e⟩ | ⟨n, _, e⟩
    · exact e3 i (R.inj _ _ x e hF)
    · rcases hv x e with f | f
      · exact nk (.inr (.inr f))
      · have := hpl.lt; omega
    · rw [List.getElem?_eraseIdx] at e
      split at e
      · have := R.ob_lt S.q n i x e hi; omega
      · have := R.ob_lt S.q (n + 1) i x e hi; omega

/-- the order stands again where it stood -/
def againM (m : Mt) (h g s : Nat) (o : Od) : Mt :=
  (holdH m o.t.toNat h g s o).setBk h g s (putAt (m.bk h g s) (slot (ahAt (m.bk h g s) s o) (m.bk h g s).length) o)

set_option maxRecDepth 100000 in
set_option maxHeartbeats 4000000 in
theorem replace_no (w : World) (L : PL) (m : Mt) (N : Int) (R : PRep w L m) (ok : m.Ok N) {t id : Int} {h g s i x : Nat} {o : Od} (S : Spot m t id h g s i o) (hi : (L.ob h g s)[i]? = some x) (z : Od)
    (ok1 : (backM m h g s i o).Ok N) (O : HOk (backM m h g s i o) h g s o) (ok2 : (holdH (backM m h g s i o) o.t.toNat h g s o).Ok N) (hE : placeE (backM m h g s i o) z ≠ 0) :
    Calls Try.prog 55 #[.pointer (some ⟨L.x, 0, none⟩), .pointer (some ⟨x, 0, none⟩), z.agg] w fun e w' => e = .returned (.tuple #[.int .i64 0, .slice none 0 0, .int .i64 (placeE (backM m h g s i o) z)]) ∧ PPost w L m (againM (backM m h g s i o) h g s o) w' := by
  have HT := hide (fun W (k : Kep non w W) => back_loose W L m N (R.later k) ok S hi)
  have lS : ¬ L.S m w.heap.size := fun f => by have := R.lt ok.T1 ok.G1 _ f; omega
  have hSq := S.q
  have dims := releaseM_bk (m.setBk h g s ((m.bk h g s).eraseIdx i)) o.t.toNat h g s o
  have hG : (backM m h g s i o).G = m.G := dims.2.2.1
  have hH : (backM m h g s i o).H = m.H := dims.2.2.2
  have e1 : (placeE (backM m h g s i o) z != 0) = true := by simpa using hE
  generalize backM m h g s i o = m1 at *
  have q1 : at3 m1 h g s := ⟨by rw [hH]; exact hSq.1, by rw [hG]; exact hSq.2.1, hSq.2.2⟩
  have dh := holdM_bk' m1 o.t.toNat h g s o
  have q2 : at3 (holdH m1 o.t.toNat h g s o) h g s := ⟨by rw [dh.2.2.2]; exact q1.1, by rw [dh.2.2.1]; exact q1.2.1, q1.2.2⟩
  have HP := hide (fun W L' (R' : PRep W L' m1) => place_no W L' m1 N R' ok1 z hE)
  have HH := hide (fun W L' (lo : Loose W L' m1 x o) => hold_h W L' m1 lo.R lo.od O)
  have HF := hide (show ∀ w1 w2 w3 w4 L', (L'.x = L.x ∧ L'.rb = L.rb ∧ L'.bb = L.bb) → (∀ b, L'.S m1 b → L.S m b ∨ w.heap.size ≤ b) → Loose w1 L' m1 x o → Kep (L.S m) w w1 → Kep non w1 w2 → HPost w2 L' (holdH m1 o.t.toNat h g s o) w3 → Kep non w3 w4 →
      Calls Try.prog 46 #[.pointer (some ⟨L'.qb h g s, 0, none⟩), .pointer (some ⟨x, 0, none⟩)] w4 fun e w' => e = .returned (.tuple #[]) ∧ PPost w L m (againM m1 h g s o) w' from fun w1 w2 w3 w4 L' eL sL lo k1 k2 P k4 => by
    have lo2 := lo.later k2
    have sab : L'.S m1 L'.ab := ⟨.ab, rfl⟩
    have xab : ¬ x = L'.ab := fun f => lo.nS (f ▸ sab)
    have R4 := P.rep.later k4
    have od4 : OdAt w4 x o := fun j v hv => ((lo2.od j v hv).kep P.kp xab).kep k4 (fun f => f)
    have pl4 : Plain w4 x := (lo2.pl.kep P.kp xab).kep k4 (fun f => f)
    have ln := R4.ln h g s q2
    have nS4 : ¬ L'.S (holdH m1 o.t.toNat h g s o) x := fun f => lo.nS (S_eq (m := m1) dh.2.2.2 dh.2.2.1 f)
    refine (add_q w4 L' _ N R4 ok2 o q2 od4 pl4 nS4 lo.nr lo.nb (by have := len_bk q2; have := ok2.a60; omega)).mono fun e w' ⟨h1, h2⟩ => ⟨h1, ?_⟩
    obtain ⟨v, R5, hv⟩ := h2.rep
    rw [ln, dh.1] at R5
    have K4 : Kep (L.S m) w w4 := ((k1.trans k2.none).trans' P.kp (fun b f => f ▸ sL _ sab)).trans k4.none
    have sub5 : ∀ b, (L'.setQ h g s v (putAt (L'.ob h g s) (slot (ahAt ((holdH m1 o.t.toNat h g s o).bk h g s) s o) (L'.ob h g s).length) x)).S (againM m1 h g s o) b → b = x ∨ L'.S m1 b ∨ w4.heap.size ≤ b := fun b hb => by
      have hb' := S_eq (L := L'.setQ h g s v _) (m := m1.setBk h g s []) (m' := againM m1 h g s o) dh.2.2.2 dh.2.2.1 hb
      obtain ⟨j, hj⟩ := hb'
      rcases F_setQ hj with ⟨e, _, _⟩ | ⟨_, e⟩ | ⟨n, _, e⟩
      · exact .inr (.inl ⟨j, e⟩)
      · rcases hv b e with f | f
        · exact .inr (.inl ⟨.qv h g s, by simp only [PL.F, q1, if_true]; exact f⟩)
        · exact .inr (.inr f)
      · rcases mem_put (List.mem_of_getElem? e) with f | f
        · exact .inl f
        · obtain ⟨n', hn'⟩ := List.mem_iff_getElem?.1 f
          exact .inr (.inl ⟨.ob h g s n', by simp only [PL.F, q1, if_true]; exact hn'⟩)
    rw [dh.1, ln, dh.1] at sub5
    have sx : L.S m x := ⟨.ob h g s i, by simp only [PL.F, hSq, if_true]; exact hi⟩
    refine ⟨K4.trans' h2.kp (fun b f => ?_), L'.setQ h g s v _, eL, fun b hb => ?_, R5⟩
    · rcases f with f | f
      · exact sL b ⟨.qb h g s, by simp only [PL.F, q1, if_true]; exact congrArg some f.symm⟩
      · exact sL b ⟨.qv h g s, by simp only [PL.F, q1, if_true]; exact f⟩
    · rcases sub5 b hb with f | f | f
      · exact .inl (f ▸ sx)
      · exact sL b f
      · exact .inr (Nat.le_trans K4.size f))
  have HO := hide O
  clear R ok S hSq hG hH dims ok1 ok2 dh O hE
  unfold Od.agg at HP ⊢
  generalize placeE m1 z = en at *
  go_enter Try.func55, Try.ntmps55
  go_wp2_with fail
  refine (HT.out _ ((Kep.refl non w).alloc _)).mono ?_
  rintro e w1 ⟨rfl, B⟩
  have hb := (B.kp.block w.heap.size (by simp) lS).trans (heap_alloc_new w _)
  replace B := B.after ((Kep.refl non w).alloc _)
  have z0 := cell_of_row _ _ 0 _ _ _ hb
  have z1 := cell_of_row _ _ 1 _ _ _ hb
  have z2 := cell_of_row _ _ 2 _ _ _ hb
  have z3 := cell_of_row _ _ 3 _ _ _ hb
  have z4 := cell_of_row _ _ 4 _ _ _ hb
  have z5 := cell_of_row _ _ 5 _ _ _ hb
  have z6 := cell_of_row _ _ 6 _ _ _ hb
  have z7 := cell_of_row _ _ 7 _ _ _ hb
  obtain ⟨L', eL, sL, lo⟩ := B.rep
  have HB := hide B.kp
  have HS := hide (And.intro eL (And.intro sL lo))
  have HX := hide eL.1
  have lw : w.heap.size < w1.heap.size := (Array.getElem?_eq_some_iff.1 hb).1
  clear B HT eL sL lo hb
  go_wp2_with fail
  rw [← HX.out]
  refine (HP.out _ L' (HS.out.2.2.R)).mono ?_
  rintro e w2 ⟨rfl, k2⟩
  have HK2 := hide k2
  clear k2 HP z0 z1 z2 z3 z4 z5 z6 z7
  go_wp2_with fail
  refine (HH.out _ L' (HS.out.2.2.later HK2.out)).mono ?_
  rintro e w3 ⟨rfl, P3⟩
  have HP3 := hide P3
  have od3 : OdAt w3 x o := fun j v hv => ((HS.out.2.2.later HK2.out).od j v hv).kep P3.kp (fun f => HS.out.2.2.nS ⟨.ab, congrArg some (show L'.ab = x from f.symm)⟩)
  have HSd := hide (sideOf_any w3 L' _ P3.rep x h g s o od3 HO.out.eh HO.out.eg HO.out.es q2)
  clear P3 od3 HH
  go_wp2_with fail
  refine HSd.out.mono ?_
  rintro e w4 ⟨rfl, kk, rfl⟩
  go_wp2_with fail
  refine (HF.out w1 w2 w3 _ L' HS.out.1 HS.out.2.1 HS.out.2.2 HB.out HK2.out HP3.out ((Kep.refl non w3).drewN _)).mono ?_
  rintro e w5 ⟨rfl, P⟩
  have HP5 := hide P
  clear P HF HSd HP3 HK2
  go_wp2
  exact bodyPost_ret (v := .tuple #[.int .i64 0, .slice none 0 0, .int .i64 en]) (by simp [results, Try.results55, go_sem]) rfl ⟨rfl, HP5.out⟩

theorem TdPost.behind {w w1 w2 : World} {L L1 : PL} {m m1 m2 : Mt} {v : Value} {ts : List Td} (k : Kep (L.S m) w w1) (e : L1.x = L.x ∧ L1.rb = L.rb ∧ L1.bb = L.bb) (hs : ∀ b, L1.S m1 b → L.S m b ∨ w.heap.size ≤ b) (P : TdPost w1 L1 m1 m2 v ts w2) : TdPost w L m m2 v ts w2 := by
  obtain ⟨L2, e2, s2, R2, n2⟩ := P.rep
  refine ⟨k.trans' P.kp hs, ⟨L2, ⟨e2.1.trans e.1, e2.2.1.trans e.2.1, e2.2.2.trans e.2.2⟩, fun b hb => ?_, R2, n2⟩, ownsRow_base P.tr (fun b hb => ?_)⟩
  · rcases s2 b hb with f | f
    · exact hs b f
    · exact .inr (Nat.le_trans k.size f)
  · exact Nat.le_trans k.size (P.tr.lt b hb).1

def RepPost (w : World) (L : PL) (m m2 : Mt) (n : Int) (ts : List Td) (e : Ending) (w' : World) : Prop := ∃ v, e = .returned (.tuple #[.int .i64 n, v, .int .i64 0]) ∧ TdPost w L m m2 v ts w'

set_option maxRecDepth 100000 in
set_option maxHeartbeats 4000000 in
theorem replace_yes (w : World) (L : PL) (m : Mt) (N : Int) (R : PRep w L m) (ok : m.Ok N) {t id : Int} {h g s i x : Nat} {o : Od} (S : Spot m t id h g s i o) (hi : (L.ob h g s)[i]? = some x) (z : Od)
    (I1 : (backM m h g s i o).Inv N) (hn : (backM m h g s i o).nu + 1 ≤ N) (hE : placeE (backM m h g s i o) z = 0) :
    Calls Try.prog 55 #[.pointer (some ⟨L.x, 0, none⟩), .pointer (some ⟨x, 0, none⟩), z.agg] w fun e w' => RepPost w L m (placeM (backM m h g s i o) z) (placeI (backM m h g s i o) z) (placeT (backM m h g s i o) z) e w' := by
  have HT := hide (fun W (k : Kep non w W) => back_loose W L m N (R.later k) ok S hi)
  have lS : ¬ L.S m w.heap.size := fun f => by have := R.lt ok.T1 ok.G1 _ f; omega
  generalize backM m h g s i o = m1 at *
  have HP := hide (fun W L' (R' : PRep W L' m1) => place_any W L' m1 N R' I1 hn z)
  rw [hE] at HP
  have HF := hide (show ∀ w1 w2 L' v, (L'.x = L.x ∧ L'.rb = L.rb ∧ L'.bb = L.bb) → (∀ b, L'.S m1 b → L.S m b ∨ w.heap.size ≤ b) → Kep (L.S m) w w1 → TdPost w1 L' m1 (placeM m1 z) v (placeT m1 z) w2 → TdPost w L m (placeM m1 z) v (placeT m1 z) w2 from fun w1 w2 L' v e hs k P => P.behind k e hs)
  clear R ok S I1 hn hE
  unfold Od.agg at HP ⊢
  generalize placeM m1 z = m2 at *
  generalize placeT m1 z = ts at *
  generalize placeI m1 z = ni at *
  go_enter Try.func55, Try.ntmps55
  go_wp2_with fail
  refine (HT.out _ ((Kep.refl non w).alloc _)).mono ?_
  rintro e w1 ⟨rfl, B⟩
  have hb := (B.kp.block w.heap.size (by simp) lS).trans (heap_alloc_new w _)
  replace B := B.after ((Kep.refl non w).alloc _)
  have z0 := cell_of_row _ _ 0 _ _ _ hb
  have z1 := cell_of_row _ _ 1 _ _ _ hb
  have z2 := cell_of_row _ _ 2 _ _ _ hb
  have z3 := cell_of_row _ _ 3 _ _ _ hb
  have z4 := cell_of_row _ _ 4 _ _ _ hb
  have z5 := cell_of_row _ _ 5 _ _ _ hb
  have z6 := cell_of_row _ _ 6 _ _ _ hb
  have z7 := cell_of_row _ _ 7 _ _ _ hb
  obtain ⟨L', eL, sL, lo⟩ := B.rep
  have HB := hide B.kp
  have HS := hide (And.intro eL (And.intro sL lo))
  have HX := hide eL.1
  have lw : w.heap.size < w1.heap.size := (Array.getElem?_eq_some_iff.1 hb).1
  clear B HT eL sL lo hb
  go_wp2_with fail
  rw [← HX.out]
  refine (HP.out _ L' (HS.out.2.2.R)).mono ?_
  rintro e w2 ⟨v, rfl, P⟩
  have HQ := hide (HF.out _ _ _ _ HS.out.1 HS.out.2.1 HB.out P)
  clear P HP HF z0 z1 z2 z3 z4 z5 z6 z7
  go_wp2
  exact bodyPost_ret (v := .tuple #[.int .i64 ni, v, .int .i64 0]) (by simp [results, Try.results55, go_sem]) rfl ⟨v, rfl, HQ.out⟩
end

end Go.Proofs.Ytcfoobhihhndjaa
