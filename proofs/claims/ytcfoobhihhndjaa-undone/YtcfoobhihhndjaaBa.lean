/- Held and Best: what is waited for; the best one of some. -/
import Derived.Test.YtcfoobhihhndjaaRd
namespace Go.Proofs.Ytcfoobhihhndjaa

section
open Go.RowKit Go.Sort

/-- money that orders to buy want -/
def wantM : List Od → Int
  | [] => 0
  | o :: r => (if o.s = 0 then o.p * o.q else 0) + wantM r
/-- pieces that orders to sell of a good in a hall want -/
def wantP (h g : Nat) : List Od → Int
  | [] => 0
  | o :: r => (if o.s ≠ 0 ∧ o.h = h ∧ o.g = g then o.q else 0) + wantP h g r

theorem wantM_app : ∀ a b, wantM (a ++ b) = wantM a + wantM b
  | [], b => by simp [wantM]
  | o :: r, b => by simp only [List.cons_append, wantM, wantM_app r b]; omega
theorem wantP_app (h g : Nat) : ∀ a b, wantP h g (a ++ b) = wantP h g a + wantP h g b
  | [], b => by simp [wantP]
  | o :: r, b => by simp only [List.cons_append, wantP, wantP_app h g r b]; omega
theorem adds_wantM : Adds wantM := ⟨rfl, wantM_app⟩
theorem adds_wantP (h g : Nat) : Adds (wantP h g) := ⟨rfl, wantP_app h g⟩

theorem Adds.perm {α : Type} {φ : List α → Int} (A : Adds φ) {a b : List α} (h : a.Perm b) : φ a = φ b := by
  induction h with
  | nil => rfl
  | @cons x l1 l2 _ ih => rw [A.cons x l1, A.cons x l2, ih]
  | swap x y l => rw [A.cons y (x :: l), A.cons x l, A.cons x (y :: l), A.cons y l]; omega
  | trans _ _ h k => exact h.trans k
theorem Adds.take {α : Type} {φ : List α → Int} (A : Adds φ) {l : List α} {k : Nat} (hk : k < l.length) : φ (l.take (k + 1)) = φ (l.take k) + φ [l[k]] := by
  rw [List.take_add_one, A.app, List.getElem?_eq_getElem hk]; rfl

theorem wantM_of (t : Int) : ∀ l : List Od, wantM (ofT t l) = heldL t l
  | [] => rfl
  | o :: r => by
    have ih := wantM_of t r
    unfold ofT at ih ⊢
    by_cases e : o.t = t
    · rw [List.filter_cons_of_pos (by simpa using e)]
      simp only [wantM, heldL, ih, e, true_and]
    · rw [List.filter_cons_of_neg (by simpa using e)]
      simp only [heldL, ih, e, false_and, if_false]
      omega

theorem wantP_of (t : Int) (h g : Nat) : ∀ l : List Od, (∀ o ∈ l, o.s ≠ 0 ∧ o.h = h ∧ o.g = g) → wantP h g (ofT t l) = keptL t l
  | [], _ => rfl
  | o :: r, ho => by
    have ih := wantP_of t h g r fun x hx => ho x (List.mem_cons_of_mem _ hx)
    have h1 := ho o (List.mem_cons_self ..)
    unfold ofT at ih ⊢
    by_cases e : o.t = t
    · rw [List.filter_cons_of_pos (by simpa using e)]
      simp only [wantP, keptL, ih, e]
      rw [if_pos h1]
      simp
    · rw [List.filter_cons_of_neg (by simpa using e)]
      simp only [keptL, ih, e, if_false]
      omega
theorem wantP_none (h g : Nat) : ∀ l : List Od, (∀ o ∈ l, ¬ (o.s ≠ 0 ∧ o.h = h ∧ o.g = g)) → wantP h g l = 0
  | [], _ => rfl
  | o :: r, ho => by
    simp only [wantP, if_neg (ho o (List.mem_cons_self ..)), wantP_none h g r fun x hx => ho x (List.mem_cons_of_mem _ hx)]; omega

theorem adds_of {φ : List Od → Int} (A : Adds φ) (t : Int) : Adds (fun l => φ (ofT t l)) := ⟨A.nil, fun a b => by unfold ofT; rw [List.filter_append, A.app]⟩

/-- what a trader's orders to sell want is what is kept -/
theorem wantP_kept {m : Mt} {N : Int} (I : m.Inv N) (t : Int) {h g : Nat} (hh : h < m.H) (hg : g < m.G) : wantP h g (ofT t m.all) = m.kept t h g := by
  have A := adds_of (adds_wantP h g) t
  have e := adds_upH A m.G m.bk h g 1 hg (by omega) [] m.H
  rw [if_pos hh] at e
  have e0 : wantP h g (ofT t (upH m.G (fun a b c => if a = h ∧ b = g ∧ c = 1 then [] else m.bk a b c) m.H)) = 0 := by
    refine wantP_none h g _ fun o ho => ?_
    obtain ⟨a, b, c, h1, h2, h3, h4⟩ := mem_upH.1 ((List.mem_filter.1 ho).1)
    split at h4
    · cases h4
    · rename_i q
      have k := I.od a b c o h1 h2 h3 h4
      rintro ⟨k1, k2, k3⟩
      refine q ⟨?_, ?_, ?_⟩
      · have := k.h; omega
      · have := k.g; omega
      · have := k.s; omega
  have e1 : wantP h g (ofT t (m.bk h g 1)) = keptL t (m.bk h g 1) := wantP_of t h g _ fun o ho => by
    have k := I.od h g 1 o hh hg (by omega) ho
    exact ⟨by have := k.s; omega, k.h, k.g⟩
  have e2 : wantP h g (ofT t ([] : List Od)) = 0 := rfl
  show wantP h g (ofT t (upH m.G m.bk m.H)) = keptL t (m.bk h g 1)
  omega

/-- a list of a trader's orders, as Orders tells it -/
structure Told (m : Mt) (t : Int) (l : List Od) : Prop where
  pm : l.Perm (ofT t m.all)
  up : l.Pairwise fun a b => a.id < b.id
  mem : ∀ o, o ∈ l ↔ (o ∈ m.all ∧ o.t = t)

theorem Mt.Jn.told {m : Mt} (J : m.Jn) {t : Int} {l : List Od} (h1 : l.Perm (ofT t m.all)) (h2 : l.Pairwise fun a b => a.id ≤ b.id) : Told m t l := by
  refine ⟨h1, ?_, fun o => ?_⟩
  · have h3 : l.Pairwise fun a b => a.id ≠ b.id := pair_of_cnt fun n => by
      rw [cntI_perm h1]
      have h4 := cntI_sub n (show (ofT t m.all).Sublist m.all from List.filter_sublist)
      have h5 := J.ids n
      omega
    exact (h2.and h3).imp fun {a b} h => by have := h.1; have := h.2; omega
  · rw [h1.mem_iff]
    unfold ofT
    simp [List.mem_filter]

end

section
open Go.RowKit Go.Sort

theorem stk_key {m : Mt} {t h g : Nat} {s : Sk} (hs : s ∈ stk m t h g) : s.h = h ∧ s.g = g ∧ s.k = m.kept t h g := by
  unfold stk at hs
  split at hs
  · have e : s = ⟨h, g, m.pc t h g, m.kept t h g, m.come t h g⟩ := by simpa using hs
    subst e
    exact ⟨rfl, rfl, rfl⟩
  · cases hs

/-- no two entries of an account speak of one good in one hall -/
theorem stkRow_pair (m : Mt) (t h : Nat) : ∀ k, (stkRow m t h k).Pairwise fun a b => ¬ (a.h = b.h ∧ a.g = b.g)
  | 0 => List.Pairwise.nil
  | k + 1 => by
    refine List.pairwise_append.2 ⟨stkRow_pair m t h k, ?_, fun a ha b hb e => ?_⟩
    · unfold stk
      split
      · exact List.pairwise_singleton _ _
      · exact List.Pairwise.nil
    · obtain ⟨g, h1, h2⟩ := mem_stkRow ha
      have e1 := (stk_key h2).2.1
      have e2 := (stk_key hb).2.1
      have := e.2
      omega
theorem stkTo_pair (m : Mt) (t : Nat) : ∀ i, (stkTo m t i).Pairwise fun a b => ¬ (a.h = b.h ∧ a.g = b.g)
  | 0 => List.Pairwise.nil
  | i + 1 => by
    refine List.pairwise_append.2 ⟨stkTo_pair m t i, stkRow_pair m t i _, fun a ha b hb e => ?_⟩
    obtain ⟨h, g, h1, h2, h3⟩ := mem_stkTo ha
    obtain ⟨g', h4, h5⟩ := mem_stkRow hb
    have e1 := (stk_key h3).1
    have e2 := (stk_key h5).1
    have := e.1
    omega

/-- some entry speaks of it -/
def among (gs : List Sk) (h g : Nat) : Bool := gs.any fun s => decide (s.h = h) && decide (s.g = g)
theorem among_iff {gs : List Sk} {h g : Nat} : among gs h g = true ↔ ∃ s ∈ gs, s.h = h ∧ s.g = g := by
  unfold among
  simp [List.any_eq_true]

/-- what is left in the table, once the entries up to k have been looked at -/
def leftP (f : Nat → Nat → Int) (gs : List Sk) (k : Nat) (h g : Nat) : Int := if among (gs.drop k) h g = true then f h g else 0

theorem left_zero (f : Nat → Nat → Int) (gs : List Sk) (h g : Nat) : leftP f gs gs.length h g = 0 := by
  unfold leftP
  rw [List.drop_length]
  rfl

theorem left_at {f : Nat → Nat → Int} {gs : List Sk} {k : Nat} (hk : k < gs.length) {h g : Nat} (e1 : gs[k].h = h) (e2 : gs[k].g = g) : leftP f gs k h g = f h g := by
  unfold leftP
  rw [if_pos]
  rw [among_iff]
  refine ⟨gs[k], ?_, e1, e2⟩
  rw [List.drop_eq_getElem_cons hk]
  exact List.mem_cons_self ..

theorem left_next {f : Nat → Nat → Int} {gs : List Sk} (hp : gs.Pairwise fun a b => ¬ (a.h = b.h ∧ a.g = b.g)) {k : Nat} (hk : k < gs.length) {h g : Nat} (e1 : gs[k].h = h) (e2 : gs[k].g = g) (a b : Nat) :
    (if a = h ∧ b = g then 0 else leftP f gs k a b) = leftP f gs (k + 1) a b := by
  have hd : gs.drop k = gs[k] :: gs.drop (k + 1) := List.drop_eq_getElem_cons hk
  have hp2 : (gs[k] :: gs.drop (k + 1)).Pairwise fun a b => ¬ (a.h = b.h ∧ a.g = b.g) := by rw [← hd]; exact hp.sublist (List.drop_sublist _ _)
  unfold leftP
  by_cases e : a = h ∧ b = g
  · obtain ⟨rfl, rfl⟩ := e
    rw [if_pos ⟨rfl, rfl⟩, if_neg]
    intro q
    obtain ⟨s, h1, h2, h3⟩ := among_iff.1 q
    exact (List.pairwise_cons.1 hp2).1 s h1 ⟨e1.trans h2.symm, e2.trans h3.symm⟩
  · rw [if_neg e]
    have : among (gs.drop k) a b = among (gs.drop (k + 1)) a b := by
      rw [hd]
      unfold among
      rw [List.any_cons]
      have : (decide (gs[k].h = (a : Int)) && decide (gs[k].g = (b : Int))) = false := by
        rw [e1, e2]
        simp only [Bool.and_eq_false_iff, decide_eq_false_iff_not]
        omega
      rw [this, Bool.false_or]
    rw [this]

/-- all that orders want stands in the account -/
theorem want_left {m : Mt} {N : Int} (I : m.Inv N) (hG : m.G = 2) {t : Nat} {l : List Od} (T : Told m t l) {h g : Nat} (hg : g < 2) : wantP h g l = leftP (fun h g => wantP h g l) (stkTo m t m.H) 0 h g := by
  unfold leftP
  rw [List.drop_zero]
  by_cases e : among (stkTo m t m.H) h g = true
  · rw [if_pos e]
  · rw [if_neg e]
    by_cases hh : h < m.H
    · rw [(adds_wantP h g).perm T.pm, wantP_kept I t hh (by omega)]
      exact (stk_none (t := t) hh (by omega) fun s hs q => e (among_iff.2 ⟨s, hs, q⟩)).2.1
    · refine wantP_none h g l fun o ho q => ?_
      obtain ⟨h1, h2⟩ := (T.mem o).1 ho
      obtain ⟨a, b, c, ha, hb, hc, hm⟩ := Mt.mem_all.1 h1
      have := (I.od a b c o ha hb hc hm).h
      omega

theorem entry_kept {m : Mt} {N : Int} (I : m.Inv N) {t : Nat} {l : List Od} (T : Told m t l) {s : Sk} (hs : s ∈ stkTo m t m.H) {h g : Nat} (e1 : s.h = h) (e2 : s.g = g) : s.k = wantP h g l := by
  obtain ⟨a, b, h1, h2, h3⟩ := mem_stkTo hs
  obtain ⟨k1, k2, k3⟩ := stk_key h3
  have ea : a = h := by omega
  have eb : b = g := by omega
  subst ea eb
  rw [k3, (adds_wantP a b).perm T.pm, wantP_kept I t h1 h2]

/-- a table of pieces, by hall and good -/
structure PcSt (W : World) (PB : Nat) (f : Nat → Nat → Int) (wr : World) : Prop where
  kp : Kep (fun b => b = PB) W wr
  pc : ∀ h g, h < 3 → g < 2 → Own wr ⟨PB, h * 2 + g, none⟩ (.int .i64 (f h g))

theorem PcSt.later {W : World} {PB : Nat} {f : Nat → Nat → Int} {wr wr' : World} (S : PcSt W PB f wr) (k : Kep non wr wr') : PcSt W PB f wr' := ⟨S.kp.trans k.none, fun h g h1 h2 => (S.pc h g h1 h2).kep k (fun q => q)⟩
theorem PcSt.put {W : World} {PB : Nat} {f : Nat → Nat → Int} {wr : World} (S : PcSt W PB f wr) {h g : Nat} (hh : h < 3) (hg : g < 2) (x : Int) : PcSt W PB (fun a b => if a = h ∧ b = g then x else f a b) (wr.setCell ⟨PB, h * 2 + g, none⟩ (.int .i64 x)) := by
  refine ⟨S.kp.setCell (p := ⟨PB, h * 2 + g, none⟩) (.inl rfl) _, fun a b h1 h2 => ?_⟩
  by_cases e : a = h ∧ b = g
  · obtain ⟨rfl, rfl⟩ := e
    rw [if_pos ⟨rfl, rfl⟩]
    exact (S.pc a b h1 h2).set rfl _
  · rw [if_neg e]
    exact (S.pc a b h1 h2).set_other (by intro q; injection q with _ q _; omega) rfl rfl _
theorem PcSt.ext {W : World} {PB : Nat} {f f' : Nat → Nat → Int} {wr : World} (S : PcSt W PB f wr) (e : ∀ a b, a < 3 → b < 2 → f a b = f' a b) : PcSt W PB f' wr := ⟨S.kp, fun h g h1 h2 => by rw [← e h g h1 h2]; exact S.pc h g h1 h2⟩

theorem PcSt.start {W' : World} {PB : Nat} (T : TypeId) (hb : W'.heap[PB]? = some (.cells #[.int .i64 0, .int .i64 0, .int .i64 0, .int .i64 0, .int .i64 0, .int .i64 0] T)) : PcSt W' PB (fun _ _ => 0) W' := by
  refine ⟨Kep.refl _ _, fun h g h1 h2 => ⟨?_, frozen_of_row _ _ _ _ _ hb⟩⟩
  rw [cell_of_row _ _ (h * 2 + g) _ _ _ hb]
  have : h * 2 + g < 6 := by omega
  rcases (show h * 2 + g = 0 ∨ h * 2 + g = 1 ∨ h * 2 + g = 2 ∨ h * 2 + g = 3 ∨ h * 2 + g = 4 ∨ h * 2 + g = 5 by omega) with e | e | e | e | e | e <;> rw [e] <;> rfl

theorem wantP_step (h g : Nat) {l : List Od} {k : Nat} (hk : k < l.length) : wantP h g (l.take (k + 1)) = wantP h g (l.take k) + if l[k].s ≠ 0 ∧ l[k].h = h ∧ l[k].g = g then l[k].q else 0 := by
  rw [(adds_wantP h g).take hk]
  simp [wantP]
theorem wantM_step {l : List Od} {k : Nat} (hk : k < l.length) : wantM (l.take (k + 1)) = wantM (l.take k) + if l[k].s = 0 then l[k].p * l[k].q else 0 := by
  rw [adds_wantM.take hk]
  simp [wantM]
theorem wantM_bd : ∀ l : List Od, (∀ o ∈ l, (1 ≤ o.p ∧ o.p ≤ 100000) ∧ (1 ≤ o.q ∧ o.q ≤ 10000)) → 0 ≤ wantM l ∧ wantM l ≤ 1000000000 * (l.length : Int)
  | [], _ => by simp [wantM]
  | o :: r, h => by
    have h1 := wantM_bd r fun x hx => h x (List.mem_cons_of_mem _ hx)
    obtain ⟨h2, h3⟩ := h o (List.mem_cons_self ..)
    have h4 := mul_le' (a := o.p) (b := o.q) (A := 100000) (B := 10000) (by omega) h2.2 (by omega) h3.2
    simp only [wantM, List.length_cons]
    split <;> omega
theorem wantP_bd (h g : Nat) : ∀ l : List Od, (∀ o ∈ l, 1 ≤ o.q ∧ o.q ≤ 10000) → 0 ≤ wantP h g l ∧ wantP h g l ≤ 10000 * (l.length : Int)
  | [], _ => by simp [wantP]
  | o :: r, h0 => by
    have h1 := wantP_bd h g r fun x hx => h0 x (List.mem_cons_of_mem _ hx)
    have h2 := h0 o (List.mem_cons_self ..)
    simp only [wantP, List.length_cons]
    split <;> omega

theorem PcSt.non {a W : World} {PB : Nat} {f : Nat → Nat → Int} {wr : World} (S : PcSt W PB f wr) (k0 : Kep non a W) (h : a.heap.size ≤ PB) : Kep non a wr := k0.trans' S.kp (fun b hb => .inr (by rw [hb]; exact h))
theorem PcSt.fresh {W : World} {PB : Nat} {f : Nat → Nat → Int} {wr : World} (S : PcSt W PB f wr) : PcSt wr PB f wr := ⟨Kep.refl _ _, S.pc⟩

/-- an account, told -/
def AccPost (W : World) (m : Mt) (t : Nat) (e : Ending) (w' : World) : Prop := Kep non W w' ∧ ∃ v, e = .returned (.tuple #[.agg #[.int .i64 (m.mo t), .int .i64 (m.held t), v], .int .i64 0]) ∧ w'.ownsRow W.heap.size 33 5 v (stkTo m t m.H).length (skCells (stkTo m t m.H))

theorem Desk.account {w : World} {rs : List Int} {x : Nat} {mon p0 p1 : Int} {m : Mt} {W : World} {N : Int} (D : Desk w rs x mon p0 p1 m W) (I : m.Inv N) {t : Nat} (ht : t < m.T) :
    Calls Try.prog 22 #[.pointer (some ⟨x, 0, none⟩), .int .i64 t] W (AccPost W m t) := by
  obtain ⟨L, rv, pb, rfl, D⟩ := D
  exact (account_yes W L m N t D.R I.ok ht).mono fun e w' ⟨v, h1, h2, h3⟩ => ⟨h2, v, h1, h3⟩

theorem Told.money {m : Mt} {t : Int} {l : List Od} (T : Told m t l) : m.held t = wantM l := by
  rw [adds_wantM.perm T.pm, wantM_of]; rfl

/-- what is known of an order that waits -/
structure Od.Seen (o : Od) (t : Int) : Prop where
  t : o.t = t
  h : ∃ h : Nat, o.h = h ∧ h < 3
  g : ∃ g : Nat, o.g = g ∧ g < 2
  s : o.s = 0 ∨ o.s = 1
  p : 1 ≤ o.p ∧ o.p ≤ 100000
  q : 1 ≤ o.q ∧ o.q ≤ 10000
  w : o.w = 0 ∨ o.w = 3

theorem Told.seen {m : Mt} {t : Int} {l : List Od} {rs : List Int} {k : Nat} (T : Told m t l) (S : Stood rs k m) (h3 : rs.length ≤ 3) {o : Od} (ho : o ∈ l) : o.Seen t := by
  obtain ⟨h1, h2⟩ := (T.mem o).1 ho
  obtain ⟨a, b, c, ha, hb, hc, hm⟩ := Mt.mem_all.1 h1
  have k := S.inv.od a b c o ha hb hc hm
  have e1 := S.H
  have e2 := S.G
  exact ⟨h2, ⟨a, k.h, by omega⟩, ⟨b, k.g, by omega⟩, by have := k.s; omega, k.p, k.q, S.jn.how ⟨ha, hb, hc⟩ hm⟩

theorem told_len {m : Mt} {t : Int} {l : List Od} {N : Int} (T : Told m t l) (I : m.Inv N) : l.length ≤ 60 := by
  have h1 := T.pm.length_eq
  have h2 := ofT_len t m.all
  have h3 := I.a60
  omega

/-- orders, as they lie -/
theorem row_at {W w' : World} {l : List Od} {va : Option Addr} {vc : Nat} (hrow : w'.ownsRow W.heap.size 42 8 (.slice va l.length vc) l.length (odCells l)) (i : Nat) (hi : i < l.length) : ∃ b, va = some ⟨b, 0, none⟩ ∧ W.heap.size ≤ b ∧ ∀ i (hi : i < l.length) j u, l[i].cells[j]? = some u → w'.cell? ⟨b, i * 8 + j, none⟩ = some u := by
  obtain ⟨ob, oc, ov, _, _⟩ := hrow.form (by omega)
  simp only [Value.slice.injEq, true_and] at ov
  obtain ⟨rfl, rfl⟩ := ov
  refine ⟨ob, rfl, (hrow.lt ob rfl).1, fun i hi j u hu => ?_⟩
  have hj : j < 8 := by have := (List.getElem?_eq_some_iff.1 hu).1; simpa [Od.cells] using this
  rw [hrow.cellAt _ (by omega), odCells_at _ _ j hi hj]
  simpa using hu
theorem srow_at {W w' : World} {l : List Sk} {va : Option Addr} {vc : Nat} (hrow : w'.ownsRow W.heap.size 33 5 (.slice va l.length vc) l.length (skCells l)) (i : Nat) (hi : i < l.length) : ∃ b, va = some ⟨b, 0, none⟩ ∧ W.heap.size ≤ b ∧ ∀ i (hi : i < l.length) j u, l[i].cells[j]? = some u → w'.cell? ⟨b, i * 5 + j, none⟩ = some u := by
  obtain ⟨ob, oc, ov, _, _⟩ := hrow.form (by omega)
  simp only [Value.slice.injEq, true_and] at ov
  obtain ⟨rfl, rfl⟩ := ov
  refine ⟨ob, rfl, (hrow.lt ob rfl).1, fun i hi j u hu => ?_⟩
  have hj : j < 5 := by have := (List.getElem?_eq_some_iff.1 hu).1; simpa [Sk.cells] using this
  rw [hrow.cellAt _ (by omega), skCells_at _ _ j hi hj]
  simpa using hu

end

section
open Go.RowKit Go.Sort

/-- a trade of so many pieces with one that waits -/
def tdOf (fee : Int → Int) (o z : Od) (n : Int) : Td := ⟨o.id, z.id, z.t, z.p, n, fee (z.p * n)⟩

/-- the trades of an order with those on the other side -/
def matchT (fee : Int → Int) : List Od → Od → List Td
  | [], _ => []
  | z :: r, o =>
    if o.q ≤ 0 then []
    else if pfits o z = false then []
    else if z.t = o.t then matchT fee r o
    else if z.q - min o.q z.q = 0 then tdOf fee o z (min o.q z.q) :: matchT fee r { o with q := o.q - min o.q z.q }
    else [tdOf fee o z (min o.q z.q)]

def feesL : List Td → Int
  | [] => 0
  | t :: r => t.f + feesL r
theorem feesL_app : ∀ a b, feesL (a ++ b) = feesL a + feesL b
  | [], b => by simp [feesL]
  | o :: r, b => by simp only [List.cons_append, feesL, feesL_app r b]; omega

theorem one_rt (m : Mt) (h g s : Nat) (o z : Od) (n p q : Int) : (noteM (oneM m h g s o z n) h g p q).rt = m.rt := by
  unfold oneM; split <;> rfl
theorem one_ho (m : Mt) (h g s : Nat) (o z : Od) (n p q : Int) : (noteM (oneM m h g s o z n) h g p q).ho = m.ho + m.fee h (z.p * n) := by
  unfold oneM; split <;> rfl
theorem release_rt (m : Mt) (t h g s : Nat) (o : Od) : (releaseM m t h g s o).rt = m.rt := by unfold releaseM; split <;> rfl
theorem release_ho (m : Mt) (t h g s : Nat) (o : Od) : (releaseM m t h g s o).ho = m.ho := by unfold releaseM; split <;> rfl
theorem fee_rt {m m' : Mt} (e : m'.rt = m.rt) (h : Nat) : m'.fee h = m.fee h := by unfold Mt.fee; rw [e]

theorem matchM_t (h g s : Nat) : ∀ (l : List Od) (m : Mt) (o : Od), (matchM h g s l m o).2.2 = matchT (m.fee h) l o ∧ (matchM h g s l m o).1.ho = m.ho + feesL (matchT (m.fee h) l o)
  | [], m, o => ⟨rfl, by simp [matchM, matchT, feesL]⟩
  | z :: r, m, o => by
    unfold matchM matchT
    by_cases h1 : o.q ≤ 0
    · rw [if_pos h1, if_pos h1]; exact ⟨rfl, by simp [feesL]⟩
    · rw [if_neg h1, if_neg h1]
      by_cases h2 : pfits o z = false
      · rw [if_pos h2, if_pos h2]; exact ⟨rfl, by simp [feesL]⟩
      · rw [if_neg h2, if_neg h2]
        by_cases h3 : z.t = o.t
        · rw [if_pos h3, if_pos h3]
          obtain ⟨i1, i2⟩ := matchM_t h g s r (releaseM (m.setBk h g s r) z.t.toNat h g s z) o
          rw [fee_rt (m := m) (by rw [release_rt]; rfl)] at i1 i2
          exact ⟨i1, by rw [i2, release_ho]; rfl⟩
        · rw [if_neg h3, if_neg h3]
          by_cases h4 : z.q - min o.q z.q = 0
          · rw [if_pos h4, if_pos h4]
            obtain ⟨i1, i2⟩ := matchM_t h g s r ((noteM (oneM m h g s o z (min o.q z.q)) h g z.p (min o.q z.q)).setBk h g s r) { o with q := o.q - min o.q z.q }
            rw [fee_rt (m := m) (show ((noteM (oneM m h g s o z (min o.q z.q)) h g z.p (min o.q z.q)).setBk h g s r).rt = m.rt from one_rt m h g s o z (min o.q z.q) z.p (min o.q z.q))] at i1 i2
            refine ⟨by simp only []; rw [i1]; rfl, ?_⟩
            simp only [feesL]
            rw [i2]
            show (noteM (oneM m h g s o z (min o.q z.q)) h g z.p (min o.q z.q)).ho + _ = _
            rw [one_ho]
            simp only [tdOf]
            omega
          · rw [if_neg h4, if_neg h4]
            refine ⟨rfl, ?_⟩
            simp only [feesL]
            rw [one_ho]
            simp only [tdOf]
            omega

/-- those of others that fit -/
def theirs (o : Od) (l : List Od) : List Od := l.filter fun z => decide (z.t ≠ o.t) && pfits o z

theorem theirs_q (o : Od) (n : Int) (l : List Od) : theirs { o with q := n } l = theirs o l := rfl

theorem theirs_none {s : Nat} (s2 : s < 2) {o : Od} (es : o.s = s) {l : List Od} (hs : l.Pairwise (Ahd (otherS s))) {z : Od} {r : List Od} (e : l = z :: r) (hf : pfits o z = false) : theirs o l = [] := by
  have h1 := left_fits s2 es hs fun y r' e' => by rw [e] at e'; injection e' with e1 _; rw [← e1]; exact hf
  unfold theirs
  refine List.filter_eq_nil_iff.2 fun y hy => ?_
  have h2 := h1 y hy
  have h3 : pfits o y = false := by
    unfold pfits
    rcases s with _ | _ | s
    · rw [if_pos (by omega)]; simp only [if_pos] at h2; simp; omega
    · rw [if_neg (by omega)]; simp at h2; simp; omega
    · omega
  simp [h3]

theorem matchT_nil {fee : Int → Int} {s : Nat} (s2 : s < 2) : ∀ (l : List Od) (o : Od), o.s = s → l.Pairwise (Ahd (otherS s)) → matchT fee l o = [] → 0 < o.q → theirs o l = []
  | [], o, _, _, _, _ => rfl
  | z :: r, o, es, hs, hm, hq => by
    unfold matchT at hm
    rw [if_neg (by omega)] at hm
    by_cases h2 : pfits o z = false
    · exact theirs_none s2 es hs rfl h2
    · rw [if_neg h2] at hm
      by_cases h3 : z.t = o.t
      · rw [if_pos h3] at hm
        have ih := matchT_nil s2 r o es (List.pairwise_cons.1 hs).2 hm hq
        unfold theirs at ih ⊢
        rw [List.filter_cons_of_neg (by simp [h3])]
        exact ih
      · rw [if_neg h3] at hm
        split at hm <;> cases hm

/-- one trade: with the first of those that fit -/
theorem matchT_step {fee : Int → Int} {s : Nat} (s2 : s < 2) : ∀ (l : List Od) (o : Od) (td : Td) (rest : List Td), o.s = s → l.Pairwise (Ahd (otherS s)) → matchT fee l o = td :: rest →
    ∃ z T l', theirs o l = z :: T ∧ td = tdOf fee o z (min o.q z.q) ∧ 0 < o.q ∧ l'.Pairwise (Ahd (otherS s)) ∧ matchT fee l' { o with q := o.q - min o.q z.q } = rest ∧
      theirs o l' = if z.q - min o.q z.q = 0 then T else { z with q := z.q - min o.q z.q } :: T
  | [], o, td, rest, _, _, hm => by cases hm
  | z :: r, o, td, rest, es, hs, hm => by
    unfold matchT at hm
    by_cases h1 : o.q ≤ 0
    · rw [if_pos h1] at hm; cases hm
    · rw [if_neg h1] at hm
      by_cases h2 : pfits o z = false
      · rw [if_pos h2] at hm; cases hm
      · rw [if_neg h2] at hm
        have h2' : pfits o z = true := by simpa using h2
        by_cases h3 : z.t = o.t
        · rw [if_pos h3] at hm
          obtain ⟨y, T, l', k1, k2, k3, k4, k5, k6⟩ := matchT_step s2 r o td rest es (List.pairwise_cons.1 hs).2 hm
          refine ⟨y, T, l', ?_, k2, k3, k4, k5, k6⟩
          unfold theirs at k1 ⊢
          rw [List.filter_cons_of_neg (by simp [h3])]
          exact k1
        · rw [if_neg h3] at hm
          have e1 : theirs o (z :: r) = z :: theirs o r := by
            unfold theirs
            rw [List.filter_cons_of_pos (by simp [h3, h2'])]
          by_cases h4 : z.q - min o.q z.q = 0
          · rw [if_pos h4] at hm
            injection hm with e2 e3
            exact ⟨z, theirs o r, r, e1, e2.symm, by omega, (List.pairwise_cons.1 hs).2, e3, by rw [if_pos h4]⟩
          · rw [if_neg h4] at hm
            injection hm with e2 e3
            refine ⟨z, theirs o r, { z with q := z.q - min o.q z.q } :: r, e1, e2.symm, by omega, ?_, ?_, ?_⟩
            · refine List.pairwise_cons.2 ⟨fun y hy => ?_, (List.pairwise_cons.1 hs).2⟩
              have := (List.pairwise_cons.1 hs).1 y hy
              rw [ahd_iff] at this ⊢
              exact this
            · rw [← e3]
              unfold matchT
              rw [if_pos (by show o.q - min o.q z.q ≤ 0; omega)]
            · rw [if_neg h4]
              unfold theirs
              rw [List.filter_cons_of_pos (by have : pfits o { z with q := z.q - min o.q z.q } = true := h2'; simp [h3, this])]

/-- the best of some, of which something is left -/
def IsBest (s : Nat) (l : List Od) (k : Nat) : Prop := ∃ z, l[k]? = some z ∧ z.q ≠ 0 ∧ ∀ (i : Nat) (y : Od), l[i]? = some y → y.q ≠ 0 → i ≠ k → Ahd s z y

def some0 (l : List Od) : List Od := l.filter fun z => decide (z.q ≠ 0)

theorem IsBest.head {s : Nat} {l : List Od} {k : Nat} (B : IsBest s l k) {z : Od} {T : List Od} (hp : (some0 l).Perm (z :: T)) (hs : (z :: T).Pairwise (Ahd s)) : l[k]? = some z := by
  obtain ⟨y, h1, h2, h3⟩ := B
  have hy : y ∈ z :: T := hp.subset (List.mem_filter.2 ⟨List.mem_of_getElem? h1, by simpa using h2⟩)
  rcases List.mem_cons.1 hy with e | hy
  · rw [h1, e]
  · have a := (List.pairwise_cons.1 hs).1 y hy
    have hz : z ∈ some0 l := hp.symm.subset (List.mem_cons_self ..)
    obtain ⟨hz1, hz2⟩ := List.mem_filter.1 hz
    obtain ⟨i, hi⟩ := List.mem_iff_getElem?.1 hz1
    by_cases e : i = k
    · subst e; rw [hi]
    · exact absurd (h3 i z hi (by simpa using hz2) e) (ahd_asymm a)

theorem set_parts {l : List Od} {k : Nat} {z : Od} (h : l[k]? = some z) (y : Od) : ∃ a b, l = a ++ z :: b ∧ l.set k y = a ++ y :: b := by
  obtain ⟨hk, e⟩ := List.getElem?_eq_some_iff.1 h
  refine ⟨l.take k, l.drop (k + 1), ?_, ?_⟩
  · rw [← e, List.getElem_cons_drop, List.take_append_drop]
  · rw [List.set_eq_take_append_cons_drop, if_pos hk]

theorem some0_set {l : List Od} {k : Nat} {z : Od} (h : l[k]? = some z) {T : List Od} (hp : (some0 l).Perm (z :: T)) (hz : z.q ≠ 0) (n : Int) : (some0 (l.set k { z with q := n })).Perm (if n = 0 then T else { z with q := n } :: T) := by
  obtain ⟨a, b, e1, e2⟩ := set_parts h { z with q := n }
  rw [e2]
  rw [e1] at hp
  unfold some0 at *
  rw [List.filter_append, List.filter_cons_of_pos (by simpa using hz)] at hp
  rw [List.filter_append]
  have h1 := (List.perm_cons z).1 ((List.perm_middle.symm).trans hp)
  by_cases e : n = 0
  · rw [List.filter_cons_of_neg (by simpa using e), if_pos e]
    exact h1
  · rw [List.filter_cons_of_pos (by simpa using e), if_neg e]
    exact List.perm_middle.trans (h1.cons _)

end

section
open Go.RowKit Go.Sort

/-- the place of the best of some, or -1 -/
def BestOf (s : Nat) (l : List Od) (r : Int) : Prop := (r = -1 ∧ ∀ y ∈ l, y.q = 0) ∨ ∃ k : Nat, r = k ∧ IsBest s l k

theorem get_snoc {l : List Od} {o y : Od} {i : Nat} (h : (l ++ [o])[i]? = some y) : (i < l.length ∧ l[i]? = some y) ∨ (i = l.length ∧ y = o) := by
  by_cases hi : i < l.length
  · rw [List.getElem?_append_left hi] at h
    exact .inl ⟨hi, h⟩
  · rw [List.getElem?_append_right (by omega)] at h
    have : i - l.length = 0 := by
      have := (List.getElem?_eq_some_iff.1 h).1
      simp at this
      omega
    rw [this] at h
    exact .inr ⟨by omega, by simpa using h.symm⟩

theorem BestOf.skip {s : Nat} {l : List Od} {r : Int} {o : Od} (h : BestOf s l r) (hq : o.q = 0) : BestOf s (l ++ [o]) r := by
  rcases h with ⟨rfl, h⟩ | ⟨k, rfl, z, h1, h2, h3⟩
  · exact .inl ⟨rfl, fun y hy => by
      rcases List.mem_append.1 hy with hy | hy
      · exact h y hy
      · rw [List.mem_singleton.1 hy]; exact hq⟩
  · have hk := (List.getElem?_eq_some_iff.1 h1).1
    refine .inr ⟨k, rfl, z, by rw [List.getElem?_append_left hk]; exact h1, h2, fun i y hi hy hne => ?_⟩
    rcases get_snoc hi with ⟨_, h4⟩ | ⟨_, rfl⟩
    · exact h3 i y h4 hy hne
    · exact absurd hq hy
theorem BestOf.first {s : Nat} {l : List Od} {o : Od} (h : BestOf s l (-1)) (hq : o.q ≠ 0) : BestOf s (l ++ [o]) l.length := by
  rcases h with ⟨_, h⟩ | ⟨k, e, _⟩
  · refine .inr ⟨l.length, rfl, o, by simp, hq, fun i y hi hy hne => ?_⟩
    rcases get_snoc hi with ⟨_, h4⟩ | ⟨h4, _⟩
    · exact absurd (h y (List.mem_of_getElem? h4)) hy
    · exact absurd h4 hne
  · omega
theorem BestOf.turn {s : Nat} {l : List Od} {k : Nat} {o z : Od} (h : BestOf s l k) (hz : l[k]? = some z) (hq : o.q ≠ 0) (ha : Ahd s o z) : BestOf s (l ++ [o]) l.length := by
  rcases h with ⟨e, _⟩ | ⟨k', e, z', h1, h2, h3⟩
  · omega
  · have e : k' = k := by omega
    subst e
    rw [h1] at hz
    have e : z' = z := by simpa using hz
    subst e
    refine .inr ⟨l.length, rfl, o, by simp, hq, fun i y hi hy hne => ?_⟩
    rcases get_snoc hi with ⟨_, h4⟩ | ⟨h4, _⟩
    · by_cases e : i = k'
      · subst e
        rw [h1] at h4
        have e : z' = y := by simpa using h4
        rw [← e]; exact ha
      · exact ahd_trans ha (h3 i y h4 hy e)
    · exact absurd h4 hne
theorem BestOf.stay {s : Nat} {l : List Od} {k : Nat} {o z : Od} (h : BestOf s l k) (hz : l[k]? = some z) (ha : Ahd s z o) : BestOf s (l ++ [o]) k := by
  rcases h with ⟨e, _⟩ | ⟨k', e, z', h1, h2, h3⟩
  · omega
  · have e : k' = k := by omega
    subst e
    rw [h1] at hz
    have e : z' = z := by simpa using hz
    subst e
    have hk := (List.getElem?_eq_some_iff.1 h1).1
    refine .inr ⟨k', rfl, z', by rw [List.getElem?_append_left hk]; exact h1, h2, fun i y hi hy hne => ?_⟩
    rcases get_snoc hi with ⟨_, h4⟩ | ⟨_, rfl⟩
    · exact h3 i y h4 hy hne
    · exact ha

def BtPost (w : World) (s : Nat) (l : List Od) (e : Ending) (w' : World) : Prop := ∃ r : Int, BestOf s l r ∧ e = .returned (.int .i64 r) ∧ ∃ n, w' = w.drewN n

set_option maxRecDepth 100000 in
set_option maxHeartbeats 8000000 in
theorem better_any (w : World) (s : Nat) (hs : s < 2) (l : List Od) (va : Option Addr) (vc : Nat) (h60 : l.length ≤ 1000) (hsd : ∀ o ∈ l, o.s = s) (hid : l.Pairwise fun a b => a.id ≠ b.id)
    (hRow : ∀ i, i < l.length → ∃ b, va = some ⟨b, 0, none⟩ ∧ ∀ i (hi : i < l.length) j u, l[i].cells[j]? = some u → w.cell? ⟨b, i * 8 + j, none⟩ = some u) :
    Calls Try.prog 20 #[.slice va l.length vc] w (BtPost w s l) := by
  have HRow := hide hRow
  have HSd := hide hsd
  have HId := hide hid
  clear hRow hsd hid
  go_enter Try.func20, Try.ntmps20
  go_wp2
  go_loopw [3, 4] (fun v i wr => ∃ (r : Int) (k : Nat), k ≤ l.length ∧ v = .int .i64 r ∧ i = .int .i64 k ∧ BestOf s (l.take k) r ∧ ∃ n, wr = w.drewN n) (fun _ i _ => l.length - (intOf i).toNat)
  case atStart => exact ⟨-1, 0, Nat.zero_le _, rfl, rfl, .inl ⟨rfl, fun y hy => by simp at hy⟩, 0, rfl⟩
  case round =>
    obtain ⟨r, j, hj, rfl, rfl, B, n, rfl⟩ := hrel
    by_cases hlj : j < l.length
    · have hlj' : (j : Int) < (l.length : Int) := by omega
      obtain ⟨b, rfl, hc⟩ := HRow.out j hlj
      have c0 := hc j hlj 0 _ rfl
      have c4 := hc j hlj 4 _ rfl
      have c5 := hc j hlj 5 _ rfl
      have c6 := hc j hlj 6 _ rfl
      simp only [Nat.add_zero] at c0
      rw [HSd.out l[j] (List.getElem_mem hlj)] at c4
      have htk : l.take (j + 1) = l.take j ++ [l[j]] := by rw [List.take_add_one, List.getElem?_eq_getElem hlj]; rfl
      have htl : (l.take j).length = j := by rw [List.length_take]; omega
      by_cases hq : l[j].q = 0
      · have HG := hide (show BestOf s (l.take (j + 1)) r by rw [htk]; exact B.skip hq)
        rw [hq] at c6
        clear B hc c0 c4 c5
        go_wp2
        exact ⟨⟨r, j + 1, by omega, rfl, by go_num, HG.out, n, rfl⟩, by simp [intOf]; omega⟩
      · have hq' : (l[j].q == 0) = false := beq_eq_false_iff_ne.2 hq
        rcases B with ⟨rfl, hall⟩ | ⟨k, rfl, B⟩
        · have HG := hide (show BestOf s (l.take (j + 1)) (j : Int) by rw [htk]; have := BestOf.first (s := s) (l := l.take j) (.inl ⟨rfl, hall⟩) hq; rw [htl] at this; exact this)
          clear hc hall
          generalize l[j] = o at *
          go_wp2
          go_quiet (fail)
          go_wp2
          exact ⟨⟨j, j + 1, by omega, rfl, by go_num, HG.out, _, rfl⟩, by simp [intOf]; omega⟩
        · obtain ⟨z, hz, hzq, hzb⟩ := B
          have hkj : k < j := by have := (List.getElem?_eq_some_iff.1 hz).1; omega
          have hkl : k < l.length := by omega
          have hkl' : (k : Int) < (l.length : Int) := by omega
          have ez : l[k] = z := by
            have := hz
            rw [List.getElem?_take, if_pos hkj, List.getElem?_eq_getElem hkl] at this
            simpa using this
          have z0 := hc k hkl 0 _ rfl
          have z5 := hc k hkl 5 _ rfl
          simp only [Nat.add_zero] at z0
          rw [ez] at z0 z5
          have hne : z.id ≠ l[j].id := by have := List.pairwise_iff_getElem.1 HId.out k j hkl hlj hkj; rw [ez] at this; exact this
          have BB : BestOf s (l.take j) k := .inr ⟨k, rfl, z, hz, hzq, hzb⟩
          have HT := hide (show Ahd s l[j] z → BestOf s (l.take (j + 1)) (j : Int) from fun h => by rw [htk]; have := BB.turn hz hq h; rw [htl] at this; exact this)
          have HY := hide (show Ahd s z l[j] → BestOf s (l.take (j + 1)) (k : Int) from fun h => by rw [htk]; exact BB.stay hz h)
          clear hc BB hz hzb hzq ez
          generalize l[j] = o at *
          have hk0 : ¬ (k : Int) < 0 := by omega
          have dk : decide ((k : Int) < 0) = false := decide_eq_false (by omega)
          have six : (s = 0 ∧ z.p < o.p) ∨ (s = 0 ∧ o.p < z.p) ∨ (s = 1 ∧ z.p < o.p) ∨ (s = 1 ∧ o.p < z.p) ∨ (o.p = z.p ∧ o.id < z.id) ∨ (o.p = z.p ∧ z.id < o.id) := by omega
          have HSx := hide six
          clear six
          rcases HSx.out with ⟨rfl, hp⟩ | ⟨rfl, hp⟩ | ⟨rfl, hp⟩ | ⟨rfl, hp⟩ | ⟨hp, hi⟩ | ⟨hp, hi⟩
          · have HG := hide (HT.out ((ahd_iff _ _ _).2 (by omega)))
            have f1 : (o.p != z.p) = true := by simp; omega
            have f2 : decide (z.p < o.p) = true := decide_eq_true hp
            clear HT HY
            go_wp2
            go_quiet (fail)
            go_wp2
            exact ⟨⟨j, j + 1, by omega, rfl, by go_num, HG.out, _, rfl⟩, by simp [intOf]; omega⟩
          · have HG := hide (HY.out ((ahd_iff _ _ _).2 (by omega)))
            have f1 : (o.p != z.p) = true := by simp; omega
            have f2 : decide (z.p < o.p) = false := decide_eq_false (by omega)
            have f3 : (o.p == z.p) = false := by simp; omega
            clear HT HY
            go_wp2
            go_quiet (fail)
            go_wp2
            exact ⟨⟨k, j + 1, by omega, rfl, by go_num, HG.out, _, rfl⟩, by simp [intOf]; omega⟩
          · have HG := hide (HY.out ((ahd_iff _ _ _).2 (by omega)))
            have f1 : (o.p != z.p) = true := by simp; omega
            have f2 : decide (z.p < o.p) = true := decide_eq_true hp
            have f3 : (o.p == z.p) = false := by simp; omega
            clear HT HY
            go_wp2
            go_quiet (fail)
            go_wp2
            exact ⟨⟨k, j + 1, by omega, rfl, by go_num, HG.out, _, rfl⟩, by simp [intOf]; omega⟩
          · have HG := hide (HT.out ((ahd_iff _ _ _).2 (by omega)))
            have f1 : (o.p != z.p) = true := by simp; omega
            have f2 : decide (z.p < o.p) = false := decide_eq_false (by omega)
            clear HT HY
            go_wp2
            go_quiet (fail)
            go_wp2
            exact ⟨⟨j, j + 1, by omega, rfl, by go_num, HG.out, _, rfl⟩, by simp [intOf]; omega⟩
          · have HG := hide (HT.out ((ahd_iff _ _ _).2 (by omega)))
            rw [hp] at c5
            have f4 : decide (o.id < z.id) = true := decide_eq_true hi
            clear HT HY hp
            go_wp2
            go_quiet (fail)
            go_wp2
            exact ⟨⟨j, j + 1, by omega, rfl, by go_num, HG.out, _, rfl⟩, by simp [intOf]; omega⟩
          · have HG := hide (HY.out ((ahd_iff _ _ _).2 (by omega)))
            rw [hp] at c5
            have f4 : decide (o.id < z.id) = false := decide_eq_false (by omega)
            clear HT HY hp
            go_wp2
            go_quiet (fail)
            go_wp2
            exact ⟨⟨k, j + 1, by omega, rfl, by go_num, HG.out, _, rfl⟩, by simp [intOf]; omega⟩
    · have hjl : j = l.length := by omega
      have HG := hide B
      rw [hjl, List.take_length] at HG
      have hlj' : ¬ (j : Int) < (l.length : Int) := by omega
      clear B
      go_wp2
      go_ret
      exact ⟨r, HG.out, rfl, n, rfl⟩

end

end Go.Proofs.Ytcfoobhihhndjaa
