/- Held: what accounts tell against what orders want; a table of pieces. -/
import Derived.Test.YtcfoobhihhndjaaHp
namespace Go.Proofs.Ytcfoobhihhndjaa
open Go.RowKit Go.Sort

theorem stk_key {m : Mt} {t h g : Nat} {s : Sk} (hs : s ∈ stk m t h g) : s.h = h ∧ s.g = g ∧ s.k = m.kept t h g := by
  unfold stk at hs
  split at hs
  · have e : s = ⟨h, g, m.pc t h g, m.kept t h g, m.come t h g⟩ := by simpa using hs
    subst e
    exact ⟨rfl, rfl, rfl⟩
  · cases hs

/-- no two entries of an account speak of one good in one hall -/
theorem stkRow_pair (m : Mt) (t h : Nat) : ∀ k, (stkRow m t h k).Pairwise fun a b => ¬ (a.h = b.h ∧ a.g = b.g)
  | 0 => List.Pairwise.nil
  | k + 1 => by
    refine List.pairwise_append.2 ⟨stkRow_pair m t h k, ?_, fun a ha b hb e => ?_⟩
    · unfold stk
      split
      · exact List.pairwise_singleton _ _
      · exact List.Pairwise.nil
    · obtain ⟨g, h1, h2⟩ := mem_stkRow ha
      have e1 := (stk_key h2).2.1
      have e2 := (stk_key hb).2.1
      have := e.2
      omega
theorem stkTo_pair (m : Mt) (t : Nat) : ∀ i, (stkTo m t i).Pairwise fun a b => ¬ (a.h = b.h ∧ a.g = b.g)
  | 0 => List.Pairwise.nil
  | i + 1 => by
    refine List.pairwise_append.2 ⟨stkTo_pair m t i, stkRow_pair m t i _, fun a ha b hb e => ?_⟩
    obtain ⟨h, g, h1, h2, h3⟩ := mem_stkTo ha
    obtain ⟨g', h4, h5⟩ := mem_stkRow hb
    have e1 := (stk_key h3).1
    have e2 := (stk_key h5).1
    have := e.1
    omega

/-- some entry speaks of it -/
def among (gs : List Sk) (h g : Nat) : Bool := gs.any fun s => decide (s.h = h) && decide (s.g = g)
theorem among_iff {gs : List Sk} {h g : Nat} : among gs h g = true ↔ ∃ s ∈ gs, s.h = h ∧ s.g = g := by
  unfold among
  simp [List.any_eq_true]

/-- what is left in the table, once the entries up to k have been looked at -/
def leftP (f : Nat → Nat → Int) (gs : List Sk) (k : Nat) (h g : Nat) : Int := if among (gs.drop k) h g = true then f h g else 0

theorem left_zero (f : Nat → Nat → Int) (gs : List Sk) (h g : Nat) : leftP f gs gs.length h g = 0 := by
  unfold leftP
  rw [List.drop_length]
  rfl

theorem left_at {f : Nat → Nat → Int} {gs : List Sk} {k : Nat} (hk : k < gs.length) {h g : Nat} (e1 : gs[k].h = h) (e2 : gs[k].g = g) : leftP f gs k h g = f h g := by
  unfold leftP
  rw [if_pos]
  rw [among_iff]
  refine ⟨gs[k], ?_, e1, e2⟩
  rw [List.drop_eq_getElem_cons hk]
  exact List.mem_cons_self ..

theorem left_next {f : Nat → Nat → Int} {gs : List Sk} (hp : gs.Pairwise fun a b => ¬ (a.h = b.h ∧ a.g = b.g)) {k : Nat} (hk : k < gs.length) {h g : Nat} (e1 : gs[k].h = h) (e2 : gs[k].g = g) (a b : Nat) :
    (if a = h ∧ b = g then 0 else leftP f gs k a b) = leftP f gs (k + 1) a b := by
  have hd : gs.drop k = gs[k] :: gs.drop (k + 1) := List.drop_eq_getElem_cons hk
  have hp2 : (gs[k] :: gs.drop (k + 1)).Pairwise fun a b => ¬ (a.h = b.h ∧ a.g = b.g) := by rw [← hd]; exact hp.sublist (List.drop_sublist _ _)
  unfold leftP
  by_cases e : a = h ∧ b = g
  · obtain ⟨rfl, rfl⟩ := e
    rw [if_pos ⟨rfl, rfl⟩, if_neg]
    intro q
    obtain ⟨s, h1, h2, h3⟩ := among_iff.1 q
    exact (List.pairwise_cons.1 hp2).1 s h1 ⟨e1.trans h2.symm, e2.trans h3.symm⟩
  · rw [if_neg e]
    have : among (gs.drop k) a b = among (gs.drop (k + 1)) a b := by
      rw [hd]
      unfold among
      rw [List.any_cons]
      have : (decide (gs[k].h = (a : Int)) && decide (gs[k].g = (b : Int))) = false := by
        rw [e1, e2]
        simp only [Bool.and_eq_false_iff, decide_eq_false_iff_not]
        omega
      rw [this, Bool.false_or]
    rw [this]

/-- all that orders want stands in the account -/
theorem want_left {m : Mt} {N : Int} (I : m.Inv N) (hG : m.G = 2) {t : Nat} {l : List Od} (T : Told m t l) {h g : Nat} (hg : g < 2) : wantP h g l = leftP (fun h g => wantP h g l) (stkTo m t m.H) 0 h g := by
  unfold leftP
  rw [List.drop_zero]
  by_cases e : among (stkTo m t m.H) h g = true
  · rw [if_pos e]
  · rw [if_neg e]
    by_cases hh : h < m.H
    · rw [(adds_wantP h g).perm T.pm, wantP_kept I t hh (by omega)]
      exact (stk_none (t := t) hh (by omega) fun s hs q => e (among_iff.2 ⟨s, hs, q⟩)).2.1
    · refine wantP_none h g l fun o ho q => ?_
      obtain ⟨h1, h2⟩ := (T.mem o).1 ho
      obtain ⟨a, b, c, ha, hb, hc, hm⟩ := Mt.mem_all.1 h1
      have := (I.od a b c o ha hb hc hm).h
      omega

theorem entry_kept {m : Mt} {N : Int} (I : m.Inv N) {t : Nat} {l : List Od} (T : Told m t l) {s : Sk} (hs : s ∈ stkTo m t m.H) {h g : Nat} (e1 : s.h = h) (e2 : s.g = g) : s.k = wantP h g l := by
  obtain ⟨a, b, h1, h2, h3⟩ := mem_stkTo hs
  obtain ⟨k1, k2, k3⟩ := stk_key h3
  have ea : a = h := by omega
  have eb : b = g := by omega
  subst ea eb
  rw [k3, (adds_wantP a b).perm T.pm, wantP_kept I t h1 h2]

/-- a table of pieces, by hall and good -/
structure PcSt (W : World) (PB : Nat) (f : Nat → Nat → Int) (wr : World) : Prop where
  kp : Kep (fun b => b = PB) W wr
  pc : ∀ h g, h < 3 → g < 2 → Own wr ⟨PB, h * 2 + g, none⟩ (.int .i64 (f h g))

theorem PcSt.later {W : World} {PB : Nat} {f : Nat → Nat → Int} {wr wr' : World} (S : PcSt W PB f wr) (k : Kep non wr wr') : PcSt W PB f wr' := ⟨S.kp.trans k.none, fun h g h1 h2 => (S.pc h g h1 h2).kep k (fun q => q)⟩
theorem PcSt.put {W : World} {PB : Nat} {f : Nat → Nat → Int} {wr : World} (S : PcSt W PB f wr) {h g : Nat} (hh : h < 3) (hg : g < 2) (x : Int) : PcSt W PB (fun a b => if a = h ∧ b = g then x else f a b) (wr.setCell ⟨PB, h * 2 + g, none⟩ (.int .i64 x)) := by
  refine ⟨S.kp.setCell (p := ⟨PB, h * 2 + g, none⟩) (.inl rfl) _, fun a b h1 h2 => ?_⟩
  by_cases e : a = h ∧ b = g
  · obtain ⟨rfl, rfl⟩ := e
    rw [if_pos ⟨rfl, rfl⟩]
    exact (S.pc a b h1 h2).set rfl _
  · rw [if_neg e]
    exact (S.pc a b h1 h2).set_other (by intro q; injection q with _ q _; omega) rfl rfl _
theorem PcSt.ext {W : World} {PB : Nat} {f f' : Nat → Nat → Int} {wr : World} (S : PcSt W PB f wr) (e : ∀ a b, a < 3 → b < 2 → f a b = f' a b) : PcSt W PB f' wr := ⟨S.kp, fun h g h1 h2 => by rw [← e h g h1 h2]; exact S.pc h g h1 h2⟩

theorem PcSt.start {W' : World} {PB : Nat} (T : TypeId) (hb : W'.heap[PB]? = some (.cells #[.int .i64 0, .int .i64 0, .int .i64 0, .int .i64 0, .int .i64 0, .int .i64 0] T)) : PcSt W' PB (fun _ _ => 0) W' := by
  refine ⟨Kep.refl _ _, fun h g h1 h2 => ⟨?_, frozen_of_row _ _ _ _ _ hb⟩⟩
  rw [cell_of_row _ _ (h * 2 + g) _ _ _ hb]
  have : h * 2 + g < 6 := by omega
  rcases (show h * 2 + g = 0 ∨ h * 2 + g = 1 ∨ h * 2 + g = 2 ∨ h * 2 + g = 3 ∨ h * 2 + g = 4 ∨ h * 2 + g = 5 by omega) with e | e | e | e | e | e <;> rw [e] <;> rfl

theorem wantP_step (h g : Nat) {l : List Od} {k : Nat} (hk : k < l.length) : wantP h g (l.take (k + 1)) = wantP h g (l.take k) + if l[k].s ≠ 0 ∧ l[k].h = h ∧ l[k].g = g then l[k].q else 0 := by
  rw [(adds_wantP h g).take hk]
  simp [wantP]
theorem wantM_step {l : List Od} {k : Nat} (hk : k < l.length) : wantM (l.take (k + 1)) = wantM (l.take k) + if l[k].s = 0 then l[k].p * l[k].q else 0 := by
  rw [adds_wantM.take hk]
  simp [wantM]
theorem wantM_bd : ∀ l : List Od, (∀ o ∈ l, (1 ≤ o.p ∧ o.p ≤ 100000) ∧ (1 ≤ o.q ∧ o.q ≤ 10000)) → 0 ≤ wantM l ∧ wantM l ≤ 1000000000 * (l.length : Int)
  | [], _ => by simp [wantM]
  | o :: r, h => by
    have h1 := wantM_bd r fun x hx => h x (List.mem_cons_of_mem _ hx)
    obtain ⟨h2, h3⟩ := h o (List.mem_cons_self ..)
    have h4 := mul_le' (a := o.p) (b := o.q) (A := 100000) (B := 10000) (by omega) h2.2 (by omega) h3.2
    simp only [wantM, List.length_cons]
    split <;> omega
theorem wantP_bd (h g : Nat) : ∀ l : List Od, (∀ o ∈ l, 1 ≤ o.q ∧ o.q ≤ 10000) → 0 ≤ wantP h g l ∧ wantP h g l ≤ 10000 * (l.length : Int)
  | [], _ => by simp [wantP]
  | o :: r, h0 => by
    have h1 := wantP_bd h g r fun x hx => h0 x (List.mem_cons_of_mem _ hx)
    have h2 := h0 o (List.mem_cons_self ..)
    simp only [wantP, List.length_cons]
    split <;> omega

theorem PcSt.non {a W : World} {PB : Nat} {f : Nat → Nat → Int} {wr : World} (S : PcSt W PB f wr) (k0 : Kep non a W) (h : a.heap.size ≤ PB) : Kep non a wr := k0.trans' S.kp (fun b hb => .inr (by rw [hb]; exact h))
theorem PcSt.fresh {W : World} {PB : Nat} {f : Nat → Nat → Int} {wr : World} (S : PcSt W PB f wr) : PcSt wr PB f wr := ⟨Kep.refl _ _, S.pc⟩

/-- an account, told -/
def AccPost (W : World) (m : Mt) (t : Nat) (e : Ending) (w' : World) : Prop := Kep non W w' ∧ ∃ v, e = .returned (.tuple #[.agg #[.int .i64 (m.mo t), .int .i64 (m.held t), v], .int .i64 0]) ∧ w'.ownsRow W.heap.size 33 5 v (stkTo m t m.H).length (skCells (stkTo m t m.H))

theorem Desk.account {w : World} {rs : List Int} {x : Nat} {mon p0 p1 : Int} {m : Mt} {W : World} {N : Int} (D : Desk w rs x mon p0 p1 m W) (I : m.Inv N) {t : Nat} (ht : t < m.T) :
    Calls Try.prog 22 #[.pointer (some ⟨x, 0, none⟩), .int .i64 t] W (AccPost W m t) := by
  obtain ⟨L, rv, pb, rfl, D⟩ := D
  exact (account_yes W L m N t D.R I.ok ht).mono fun e w' ⟨v, h1, h2, h3⟩ => ⟨h2, v, h1, h3⟩

theorem Told.money {m : Mt} {t : Int} {l : List Od} (T : Told m t l) : m.held t = wantM l := by
  rw [adds_wantM.perm T.pm, wantM_of]; rfl

/-- what is known of an order that waits -/
structure Od.Seen (o : Od) (t : Int) : Prop where
  t : o.t = t
  h : ∃ h : Nat, o.h = h ∧ h < 3
  g : ∃ g : Nat, o.g = g ∧ g < 2
  s : o.s = 0 ∨ o.s = 1
  p : 1 ≤ o.p ∧ o.p ≤ 100000
  q : 1 ≤ o.q ∧ o.q ≤ 10000
  w : o.w = 0 ∨ o.w = 3

theorem Told.seen {m : Mt} {t : Int} {l : List Od} {rs : List Int} {k : Nat} (T : Told m t l) (S : Stood rs k m) (h3 : rs.length ≤ 3) {o : Od} (ho : o ∈ l) : o.Seen t := by
  obtain ⟨h1, h2⟩ := (T.mem o).1 ho
  obtain ⟨a, b, c, ha, hb, hc, hm⟩ := Mt.mem_all.1 h1
  have k := S.inv.od a b c o ha hb hc hm
  have e1 := S.H
  have e2 := S.G
  exact ⟨h2, ⟨a, k.h, by omega⟩, ⟨b, k.g, by omega⟩, by have := k.s; omega, k.p, k.q, S.jn.how ⟨ha, hb, hc⟩ hm⟩

theorem told_len {m : Mt} {t : Int} {l : List Od} {N : Int} (T : Told m t l) (I : m.Inv N) : l.length ≤ 60 := by
  have h1 := T.pm.length_eq
  have h2 := ofT_len t m.all
  have h3 := I.a60
  omega

/-- orders, as they lie -/
theorem row_at {W w' : World} {l : List Od} {va : Option Addr} {vc : Nat} (hrow : w'.ownsRow W.heap.size 42 8 (.slice va l.length vc) l.length (odCells l)) (i : Nat) (hi : i < l.length) : ∃ b, va = some ⟨b, 0, none⟩ ∧ W.heap.size ≤ b ∧ ∀ i (hi : i < l.length) j u, l[i].cells[j]? = some u → w'.cell? ⟨b, i * 8 + j, none⟩ = some u := by
  obtain ⟨ob, oc, ov, _, _⟩ := hrow.form (by omega)
  simp only [Value.slice.injEq, true_and] at ov
  obtain ⟨rfl, rfl⟩ := ov
  refine ⟨ob, rfl, (hrow.lt ob rfl).1, fun i hi j u hu => ?_⟩
  have hj : j < 8 := by have := (List.getElem?_eq_some_iff.1 hu).1; simpa [Od.cells] using this
  rw [hrow.cellAt _ (by omega), odCells_at _ _ j hi hj]
  simpa using hu
theorem srow_at {W w' : World} {l : List Sk} {va : Option Addr} {vc : Nat} (hrow : w'.ownsRow W.heap.size 33 5 (.slice va l.length vc) l.length (skCells l)) (i : Nat) (hi : i < l.length) : ∃ b, va = some ⟨b, 0, none⟩ ∧ W.heap.size ≤ b ∧ ∀ i (hi : i < l.length) j u, l[i].cells[j]? = some u → w'.cell? ⟨b, i * 5 + j, none⟩ = some u := by
  obtain ⟨ob, oc, ov, _, _⟩ := hrow.form (by omega)
  simp only [Value.slice.injEq, true_and] at ov
  obtain ⟨rfl, rfl⟩ := ov
  refine ⟨ob, rfl, (hrow.lt ob rfl).1, fun i hi j u hu => ?_⟩
  have hj : j < 5 := by have := (List.getElem?_eq_some_iff.1 hu).1; simpa [Sk.cells] using this
  rw [hrow.cellAt _ (by omega), skCells_at _ _ j hi hj]
  simpa using hu

end Go.Proofs.Ytcfoobhihhndjaa
