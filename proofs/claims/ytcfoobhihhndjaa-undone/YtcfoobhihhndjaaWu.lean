import Derived.Carry
import Derived.Deep.Slices
import Derived.OpenShut
import Derived.ProofKit
import Derived.Test.YtcfoobhihhndjaaB45
/- Rates and steps, read out of memory. -/
namespace Go.Proofs.Ytcfoobhihhndjaa
open Go.ChangeShapes Go.WideShapes Go.ChangeAt Go.RowKit Go.Deep

theorem own : ownKnob Try.prog.godebug = none := by kernel_rfl
theorem laidOut : laidOutB Try.prog = true := by kernel_rfl
theorem cellsStep : Try.prog.cellsOf 39 = 6 := by kernel_rfl
theorem cellsInt : Try.prog.cellsOf 3 = 1 := by kernel_rfl

section
variable {H : Type} {enc : TypeId × Value → H} {w : World} {base : Nat} {held : Bool}

theorem spot_of {P : Program} {t e : TypeId} {a : Addr} {len cap : Nat} (ht : P.underlying t = some (.slice e)) (h : Value.okWide P w .any base t (.slice (some a) len cap)) : a.spot = none := by
  simp only [Value.okWide, ht, Cell.okWide, Cell.ok, World.has] at h
  exact h.2.2.2.1

set_option maxRecDepth 100000 in
theorem int_of {spare : Nat → Bool} {n : Nat} {v : Value} {y : DataW H × List MemPlace} (h : DataW.trod enc Try.prog w base spare held n 3 [v] = some y) : ∃ k : Int, v = .int .i64 k ∧ i64R k := by
  obtain ⟨k, e, _, hw⟩ := DataW.trod_int Try.underlying3 h
  refine ⟨k, by simpa using e, ?_⟩
  unfold i64R
  simpa [Lit.wf, IntKind.min, IntKind.max, IntKind.signed, IntKind.bits] using hw

set_option maxRecDepth 100000 in
/-- rates -/
theorem rates_of {n : Nat} {v : Value} {y : DataW H × List MemPlace} (hv : Value.okWide Try.prog w .any base 24 v) (h : DataW.trod enc Try.prog w 0 (fun _ => true) held n 24 [v] = some y) : ∃ rs : List Int, IntsAt w v rs ∧ ∀ x ∈ rs, i64R x := by
  rcases open_ints Try.underlying24 Try.underlying3 cellsInt h with ⟨e, _⟩ | ⟨a, len, cap, zs, e, _, hl, _, hz, hy, hc, hwf⟩
  · exact ⟨[], .inl ⟨by simpa using e, rfl⟩, by simp⟩
  · have e : v = .slice (some a) len cap := by simpa using e
    subst e
    have hsp := spot_of Try.underlying24 hv
    obtain ⟨b, off, sp⟩ := a
    have hsp : sp = none := hsp
    subst hsp
    simp only [if_true] at hz
    have hlen : (zs.take len).length = len := by rw [List.length_take]; omega
    refine ⟨zs.take len, .inr ⟨b, off, cap, by rw [hlen], fun i x q => ?_⟩, fun x hx => ?_⟩
    · have hi : i < len := by
        have := (List.getElem?_eq_some_iff.1 q).1
        omega
      have hx : zs[i]? = some x := by rw [List.getElem?_take] at q; simpa [hi] using q
      have := hc i (by omega)
      rw [add_plain] at this
      rw [this]
      simp [List.getD, hx]
    · have := hwf x (List.mem_of_mem_take hx)
      unfold i64R
      simpa [Lit.wf, IntKind.min, IntKind.max, IntKind.signed, IntKind.bits] using this

set_option maxRecDepth 100000 in
/-- a step -/
theorem step_of {spare : Nat → Bool} {n : Nat} {cs : List Value} {x : DataW H × List MemPlace} (h : DataW.trod enc Try.prog w base spare held n 39 cs = some x) : ∃ s : Stp, cs = s.cells ∧ s.ok := by
  obtain ⟨xs, m, rfl, rfl, hl, hxl, hf⟩ := DataW.trod_struct Try.underlying39 h
  rw [cellsStep] at hl
  match xs, hxl, cs, hl with
  | [y0, y1, y2, y3, y4, y5], _, [v0, v1, v2, v3, v4, v5], _ =>
    have g0 := hf 0 _ rfl
    have g1 := hf 1 _ rfl
    have g2 := hf 2 _ rfl
    have g3 := hf 3 _ rfl
    have g4 := hf 4 _ rfl
    have g5 := hf 5 _ rfl
    simp only [List.getElem?_cons_zero, List.getElem?_cons_succ] at g0 g1 g2 g3 g4 g5
    obtain ⟨k0, rfl, r0⟩ := int_of g0
    obtain ⟨k1, rfl, r1⟩ := int_of g1
    obtain ⟨k2, rfl, r2⟩ := int_of g2
    obtain ⟨k3, rfl, r3⟩ := int_of g3
    obtain ⟨k4, rfl, r4⟩ := int_of g4
    obtain ⟨k5, rfl, r5⟩ := int_of g5
    exact ⟨⟨k0, k1, k2, k3, k4, k5⟩, rfl, r0, r1, r2, r3, r4, r5⟩

set_option maxRecDepth 100000 in
/-- steps -/
theorem steps_of {fuel : Nat} {a : Option Addr} {len cap : Nat} {x : DataW H × List MemPlace} (hv : Value.okWide Try.prog w .any base 37 (.slice a len cap)) (h : DataW.trod enc Try.prog w 0 (fun _ => true) held fuel 37 [.slice a len cap] = some x) : ∃ ss : List Stp, ss.length = len ∧ StepsAt w a ss := by
  rcases open_slice Try.underlying37 h with ⟨e, _⟩ | ⟨ad, len', cap', m, n, D, Pl, e, _, hl, _, hm, rfl, hx⟩
  · have e : a = none ∧ len = 0 ∧ cap = 0 := by simpa using e
    obtain ⟨rfl, rfl, rfl⟩ := e
    exact ⟨[], rfl, fun i o q => by simp at q⟩
  · have e : a = some ad ∧ len = len' ∧ cap = cap' := by simpa using e
    obtain ⟨rfl, rfl, rfl⟩ := e
    have hsp := spot_of Try.underlying37 hv
    simp only [if_true] at hm
    subst hm
    rw [cellsStep] at hx
    obtain ⟨b, off, sp⟩ := ad
    have hsp : sp = none := hsp
    subst hsp
    have each : ∀ i, i < len → ∃ o : Stp, (∀ j u, o.cells[j]? = some u → w.cell? ⟨b, off + i * 6 + j, none⟩ = some u) ∧ o.ok := fun i hi => by
      obtain ⟨cs, h1, h2⟩ := hx i (by omega)
      obtain ⟨o, ho, hr⟩ := step_of h2
      obtain ⟨_, hcl, hcell⟩ := World.cells?_some h1
      refine ⟨o, fun j u q => ?_, hr⟩
      have hj : j < 6 := by have := (List.getElem?_eq_some_iff.1 q).1; simpa [Stp.cells] using this
      have := hcell j hj
      rw [add_add, add_plain, ← Nat.add_assoc] at this
      rw [this, ho]
      simpa using q
    haveI : Inhabited Stp := ⟨⟨0, 0, 0, 0, 0, 0⟩⟩
    obtain ⟨f, hf⟩ := choose_lt each
    refine ⟨(List.range len).map f, by simp, fun i o q => ?_⟩
    have hi : i < len := by have := (List.getElem?_eq_some_iff.1 q).1; simpa using this
    have e : f i = o := by simpa [hi] using q
    subst e
    exact ⟨(hf i hi).2, b, off, rfl, (hf i hi).1⟩
end

end Go.Proofs.Ytcfoobhihhndjaa

/- Held and Best: what is waited for; the best one of some. -/
namespace Go.Proofs.Ytcfoobhihhndjaa

section
open Go.RowKit Go.Sort

/-- money that orders to buy want -/
def wantM : List Od → Int
  | [] => 0
  | o :: r => (if o.s = 0 then o.p * o.q else 0) + wantM r
/-- pieces that orders to sell of a good in a hall want -/
def wantP (h g : Nat) : List Od → Int
  | [] => 0
  | o :: r => (if o.s ≠ 0 ∧ o.h = h ∧ o.g = g then o.q else 0) + wantP h g r

theorem wantM_app : ∀ a b, wantM (a ++ b) = wantM a + wantM b
  | [], b => by simp [wantM]
  | o :: r, b => by simp only [List.cons_append, wantM, wantM_app r b]; omega
theorem wantP_app (h g : Nat) : ∀ a b, wantP h g (a ++ b) = wantP h g a + wantP h g b
  | [], b => by simp [wantP]
  | o :: r, b => by simp only [List.cons_append, wantP, wantP_app h g r b]; omega
theorem adds_wantM : Adds wantM := ⟨rfl, wantM_app⟩
theorem adds_wantP (h g : Nat) : Adds (wantP h g) := ⟨rfl, wantP_app h g⟩

theorem Adds.perm {α : Type} {φ : List α → Int} (A : Adds φ) {a b : List α} (h : a.Perm b) : φ a = φ b := by
  induction h with
  | nil => rfl
  | @cons x l1 l2 _ ih => rw [A.cons x l1, A.cons x l2, ih]
  | swap x y l => rw [A.cons y (x :: l), A.cons x l, A.cons x (y :: l), A.cons y l]; omega
  | trans _ _ h k => exact h.trans k
theorem Adds.take {α : Type} {φ : List α → Int} (A : Adds φ) {l : List α} {k : Nat} (hk : k < l.length) : φ (l.take (k + 1)) = φ (l.take k) + φ [l[k]] := by
  rw [List.take_add_one, A.app, List.getElem?_eq_getElem hk]; rfl

theorem wantM_of (t : Int) : ∀ l : List Od, wantM (ofT t l) = heldL t l
  | [] => rfl
  | o :: r => by
    have ih := wantM_of t r
    unfold ofT at ih ⊢
    by_cases e : o.t = t
    · rw [List.filter_cons_of_pos (by simpa using e)]
      simp only [wantM, heldL, ih, e, true_and]
    · rw [List.filter_cons_of_neg (by simpa using e)]
      simp only [heldL, ih, e, false_and, if_false]
      omega

theorem wantP_of (t : Int) (h g : Nat) : ∀ l : List Od, (∀ o ∈ l, o.s ≠ 0 ∧ o.h = h ∧ o.g = g) → wantP h g (ofT t l) = keptL t l
  | [], _ => rfl
  | o :: r, ho => by
    have ih := wantP_of t h g r fun x hx => ho x (List.mem_cons_of_mem _ hx)
    have h1 := ho o (List.mem_cons_self ..)
    unfold ofT at ih ⊢
    by_cases e : o.t = t
    · rw [List.filter_cons_of_pos (by simpa using e)]
      simp only [wantP, keptL, ih, e]
      rw [if_pos h1]
      simp
    · rw [List.filter_cons_of_neg (by simpa using e)]
      simp only [keptL, ih, e, if_false]
      omega
theorem wantP_none (h g : Nat) : ∀ l : List Od, (∀ o ∈ l, ¬ (o.s ≠ 0 ∧ o.h = h ∧ o.g = g)) → wantP h g l = 0
  | [], _ => rfl
  | o :: r, ho => by
    simp only [wantP, if_neg (ho o (List.mem_cons_self ..)), wantP_none h g r fun x hx => ho x (List.mem_cons_of_mem _ hx)]; omega

theorem adds_of {φ : List Od → Int} (A : Adds φ) (t : Int) : Adds (fun l => φ (ofT t l)) := ⟨A.nil, fun a b => by unfold ofT; rw [List.filter_append, A.app]⟩

/-- what a trader's orders to sell want is what is kept -/
theorem wantP_kept {m : Mt} {N : Int} (I : m.Inv N) (t : Int) {h g : Nat} (hh : h < m.H) (hg : g < m.G) : wantP h g (ofT t m.all) = m.kept t h g := by
  have A := adds_of (adds_wantP h g) t
  have e := adds_upH A m.G m.bk h g 1 hg (by omega) [] m.H
  rw [if_pos hh] at e
  have e0 : wantP h g (ofT t (upH m.G (fun a b c => if a = h ∧ b = g ∧ c = 1 then [] else m.bk a b c) m.H)) = 0 := by
    refine wantP_none h g _ fun o ho => ?_
    obtain ⟨a, b, c, h1, h2, h3, h4⟩ := mem_upH.1 ((List.mem_filter.1 ho).1)
    split at h4
    · cases h4
    · rename_i q
      have k := I.od a b c o h1 h2 h3 h4
      rintro ⟨k1, k2, k3⟩
      refine q ⟨?_, ?_, ?_⟩
      · have := k.h; omega
      · have := k.g; omega
      · have := k.s; omega
  have e1 : wantP h g (ofT t (m.bk h g 1)) = keptL t (m.bk h g 1) := wantP_of t h g _ fun o ho => by
    have k := I.od h g 1 o hh hg (by omega) ho
    exact ⟨by have := k.s; omega, k.h, k.g⟩
  have e2 : wantP h g (ofT t ([] : List Od)) = 0 := rfl
  show wantP h g (ofT t (upH m.G m.bk m.H)) = keptL t (m.bk h g 1)
  omega

/-- a list of a trader's orders, as Orders tells it -/
structure Told (m : Mt) (t : Int) (l : List Od) : Prop where
  pm : l.Perm (ofT t m.all)
  up : l.Pairwise fun a b => a.id < b.id
  mem : ∀ o, o ∈ l ↔ (o ∈ m.all ∧ o.t = t)

theorem Mt.Jn.told {m : Mt} (J : m.Jn) {t : Int} {l : List Od} (h1 : l.Perm (ofT t m.all)) (h2 : l.Pairwise fun a b => a.id ≤ b.id) : Told m t l := by
  refine ⟨h1, ?_, fun o => ?_⟩
  · have h3 : l.Pairwise fun a b => a.id ≠ b.id := pair_of_cnt fun n => by
      rw [cntI_perm h1]
      have h4 := cntI_sub n (show (ofT t m.all).Sublist m.all from List.filter_sublist)
      have h5 := J.ids n
      omega
    exact (h2.and h3).imp fun {a b} h => by have := h.1; have := h.2; omega
  · rw [h1.mem_iff]
    unfold ofT
    simp [List.mem_filter]

end

section
open Go.RowKit Go.Sort

theorem stk_key {m : Mt} {t h g : Nat} {s : Sk} (hs : s ∈ stk m t h g) : s.h = h ∧ s.g = g ∧ s.k = m.kept t h g := by
  unfold stk at hs
  split at hs
  · have e : s = ⟨h, g, m.pc t h g, m.kept t h g, m.come t h g⟩ := by simpa using hs
    subst e
    exact ⟨rfl, rfl, rfl⟩
  · cases hs

/-- no two entries of an account speak of one good in one hall -/
theorem stkRow_pair (m : Mt) (t h : Nat) : ∀ k, (stkRow m t h k).Pairwise fun a b => ¬ (a.h = b.h ∧ a.g = b.g)
  | 0 => List.Pairwise.nil
  | k + 1 => by
    refine List.pairwise_append.2 ⟨stkRow_pair m t h k, ?_, fun a ha b hb e => ?_⟩
    · unfold stk
      split
      · exact List.pairwise_singleton _ _
      · exact List.Pairwise.nil
    · obtain ⟨g, h1, h2⟩ := mem_stkRow ha
      have e1 := (stk_key h2).2.1
      have e2 := (stk_key hb).2.1
      have := e.2
      omega
theorem stkTo_pair (m : Mt) (t : Nat) : ∀ i, (stkTo m t i).Pairwise fun a b => ¬ (a.h = b.h ∧ a.g = b.g)
  | 0 => List.Pairwise.nil
  | i + 1 => by
    refine List.pairwise_append.2 ⟨stkTo_pair m t i, stkRow_pair m t i _, fun a ha b hb e => ?_⟩
    obtain ⟨h, g, h1, h2, h3⟩ := mem_stkTo ha
    obtain ⟨g', h4, h5⟩ := mem_stkRow hb
    have e1 := (stk_key h3).1
    have e2 := (stk_key h5).1
    have := e.1
    omega

/-- some entry speaks of it -/
def among (gs : List Sk) (h g : Nat) : Bool := gs.any fun s => decide (s.h = h) && decide (s.g = g)
theorem among_iff {gs : List Sk} {h g : Nat} : among gs h g = true ↔ ∃ s ∈ gs, s.h = h ∧ s.g = g := by
  unfold among
  simp [List.any_eq_true]

/-- what is left in the table, once the entries up to k have been looked at -/
def leftP (f : Nat → Nat → Int) (gs : List Sk) (k : Nat) (h g : Nat) : Int := if among (gs.drop k) h g = true then f h g else 0

theorem left_zero (f : Nat → Nat → Int) (gs : List Sk) (h g : Nat) : leftP f gs gs.length h g = 0 := by
  unfold leftP
  rw [List.drop_length]
  rfl

theorem left_at {f : Nat → Nat → Int} {gs : List Sk} {k : Nat} (hk : k < gs.length) {h g : Nat} (e1 : gs[k].h = h) (e2 : gs[k].g = g) : leftP f gs k h g = f h g := by
  unfold leftP
  rw [if_pos]
  rw [among_iff]
  refine ⟨gs[k], ?_, e1, e2⟩
  rw [List.drop_eq_getElem_cons hk]
  exact List.mem_cons_self ..

theorem left_next {f : Nat → Nat → Int} {gs : List Sk} (hp : gs.Pairwise fun a b => ¬ (a.h = b.h ∧ a.g = b.g)) {k : Nat} (hk : k < gs.length) {h g : Nat} (e1 : gs[k].h = h) (e2 : gs[k].g = g) (a b : Nat) :
    (if a = h ∧ b = g then 0 else leftP f gs k a b) = leftP f gs (k + 1) a b := by
  have hd : gs.drop k = gs[k] :: gs.drop (k + 1) := List.drop_eq_getElem_cons hk
  have hp2 : (gs[k] :: gs.drop (k + 1)).Pairwise fun a b => ¬ (a.h = b.h ∧ a.g = b.g) := by rw [← hd]; exact hp.sublist (List.drop_sublist _ _)
  unfold leftP
  by_cases e : a = h ∧ b = g
  · obtain ⟨rfl, rfl⟩ := e
    rw [if_pos ⟨rfl, rfl⟩, if_neg]
    intro q
    obtain ⟨s, h1, h2, h3⟩ := among_iff.1 q
    exact (List.pairwise_cons.1 hp2).1 s h1 ⟨e1.trans h2.symm, e2.trans h3.symm⟩
  · rw [if_neg e]
    have : among (gs.drop k) a b = among (gs.drop (k + 1)) a b := by
      rw [hd]
      unfold among
      rw [List.any_cons]
      have : (decide (gs[k].h = (a : Int)) && decide (gs[k].g = (b : Int))) = false := by
        rw [e1, e2]
        simp only [Bool.and_eq_false_iff, decide_eq_false_iff_not]
        omega
      rw [this, Bool.false_or]
    rw [this]

/-- all that orders want stands in the account -/
theorem want_left {m : Mt} {N : Int} (I : m.Inv N) (hG : m.G = 2) {t : Nat} {l : List Od} (T : Told m t l) {h g : Nat} (hg : g < 2) : wantP h g l = leftP (fun h g => wantP h g l) (stkTo m t m.H) 0 h g := by
  unfold leftP
  rw [List.drop_zero]
  by_cases e : among (stkTo m t m.H) h g = true
  · rw [if_pos e]
  · rw [if_neg e]
    by_cases hh : h < m.H
    · rw [(adds_wantP h g).perm T.pm, wantP_kept I t hh (by omega)]
      exact (stk_none (t := t) hh (by omega) fun s hs q => e (among_iff.2 ⟨s, hs, q⟩)).2.1
    · refine wantP_none h g l fun o ho q => ?_
      obtain ⟨h1, h2⟩ := (T.mem o).1 ho
      obtain ⟨a, b, c, ha, hb, hc, hm⟩ := Mt.mem_all.1 h1
      have := (I.od a b c o ha hb hc hm).h
      omega

theorem entry_kept {m : Mt} {N : Int} (I : m.Inv N) {t : Nat} {l : List Od} (T : Told m t l) {s : Sk} (hs : s ∈ stkTo m t m.H) {h g : Nat} (e1 : s.h = h) (e2 : s.g = g) : s.k = wantP h g l := by
  obtain ⟨a, b, h1, h2, h3⟩ := mem_stkTo hs
  obtain ⟨k1, k2, k3⟩ := stk_key h3
  have ea : a = h := by omega
  have eb : b = g := by omega
  subst ea eb
  rw [k3, (adds_wantP a b).perm T.pm, wantP_kept I t h1 h2]

/-- a table of pieces, by hall and good -/
structure PcSt (W : World) (PB : Nat) (f : Nat → Nat → Int) (wr : World) : Prop where
  kp : Kep (fun b => b = PB) W wr
  pc : ∀ h g, h < 3 → g < 2 → Own wr ⟨PB, h * 2 + g, none⟩ (.int .i64 (f h g))

theorem PcSt.later {W : World} {PB : Nat} {f : Nat → Nat → Int} {wr wr' : World} (S : PcSt W PB f wr) (k : Kep non wr wr') : PcSt W PB f wr' := ⟨S.kp.trans k.none, fun h g h1 h2 => (S.pc h g h1 h2).kep k (fun q => q)⟩
theorem PcSt.put {W : World} {PB : Nat} {f : Nat → Nat → Int} {wr : World} (S : PcSt W PB f wr) {h g : Nat} (hh : h < 3) (hg : g < 2) (x : Int) : PcSt W PB (fun a b => if a = h ∧ b = g then x else f a b) (wr.setCell ⟨PB, h * 2 + g, none⟩ (.int .i64 x)) := by
  refine ⟨S.kp.setCell (p := ⟨PB, h * 2 + g, none⟩) (.inl rfl) _, fun a b h1 h2 => ?_⟩
  by_cases e : a = h ∧ b = g
  · obtain ⟨rfl, rfl⟩ := e
    rw [if_pos ⟨rfl, rfl⟩]
    exact (S.pc a b h1 h2).set rfl _
  · rw [if_neg e]
    exact (S.pc a b h1 h2).set_other (by intro q; injection q with _ q _; omega) rfl rfl _
theorem PcSt.ext {W : World} {PB : Nat} {f f' : Nat → Nat → Int} {wr : World} (S : PcSt W PB f wr) (e : ∀ a b, a < 3 → b < 2 → f a b = f' a b) : PcSt W PB f' wr := ⟨S.kp, fun h g h1 h2 => by rw [← e h g h1 h2]; exact S.pc h g h1 h2⟩

theorem PcSt.start {W' : World} {PB : Nat} (T : TypeId) (hb : W'.heap[PB]? = some (.cells #[.int .i64 0, .int .i64 0, .int .i64 0, .int .i64 0, .int .i64 0, .int .i64 0] T)) : PcSt W' PB (fun _ _ => 0) W' := by
  refine ⟨Kep.refl _ _, fun h g h1 h2 => ⟨?_, frozen_of_row _ _ _ _ _ hb⟩⟩
  rw [cell_of_row _ _ (h * 2 + g) _ _ _ hb]
  have : h * 2 + g < 6 := by omega
  rcases (show h * 2 + g = 0 ∨ h * 2 + g = 1 ∨ h * 2 + g = 2 ∨ h * 2 + g = 3 ∨ h * 2 + g = 4 ∨ h * 2 + g = 5 by omega) with e | e | e | e | e | e <;> rw [e] <;> rfl

theorem wantP_step (h g : Nat) {l : List Od} {k : Nat} (hk : k < l.length) : wantP h g (l.take (k + 1)) = wantP h g (l.take k) + if l[k].s ≠ 0 ∧ l[k].h = h ∧ l[k].g = g then l[k].q else 0 := by
  rw [(adds_wantP h g).take hk]
  simp [wantP]
theorem wantM_step {l : List Od} {k : Nat} (hk : k < l.length) : wantM (l.take (k + 1)) = wantM (l.take k) + if l[k].s = 0 then l[k].p * l[k].q else 0 := by
  rw [adds_wantM.take hk]
  simp [wantM]
theorem wantM_bd : ∀ l : List Od, (∀ o ∈ l, (1 ≤ o.p ∧ o.p ≤ 100000) ∧ (1 ≤ o.q ∧ o.q ≤ 10000)) → 0 ≤ wantM l ∧ wantM l ≤ 1000000000 * (l.length : Int)
  | [], _ => by simp [wantM]
  | o :: r, h => by
    have h1 := wantM_bd r fun x hx => h x (List.mem_cons_of_mem _ hx)
    obtain ⟨h2, h3⟩ := h o (List.mem_cons_self ..)
    have h4 := mul_le' (a := o.p) (b := o.q) (A := 100000) (B := 10000) (by omega) h2.2 (by omega) h3.2
    simp only [wantM, List.length_cons]
    split <;> omega
theorem wantP_bd (h g : Nat) : ∀ l : List Od, (∀ o ∈ l, 1 ≤ o.q ∧ o.q ≤ 10000) → 0 ≤ wantP h g l ∧ wantP h g l ≤ 10000 * (l.length : Int)
  | [], _ => by simp [wantP]
  | o :: r, h0 => by
    have h1 := wantP_bd h g r fun x hx => h0 x (List.mem_cons_of_mem _ hx)
    have h2 := h0 o (List.mem_cons_self ..)
    simp only [wantP, List.length_cons]
    split <;> omega

theorem PcSt.non {a W : World} {PB : Nat} {f : Nat → Nat → Int} {wr : World} (S : PcSt W PB f wr) (k0 : Kep non a W) (h : a.heap.size ≤ PB) : Kep non a wr := k0.trans' S.kp (fun b hb => .inr (by rw [hb]; exact h))
theorem PcSt.fresh {W : World} {PB : Nat} {f : Nat → Nat → Int} {wr : World} (S : PcSt W PB f wr) : PcSt wr PB f wr := ⟨Kep.refl _ _, S.pc⟩

/-- an account, told -/
def AccPost (W : World) (m : Mt) (t : Nat) (e : Ending) (w' : World) : Prop := Kep non W w' ∧ ∃ v, e = .returned (.tuple #[.agg #[.int .i64 (m.mo t), .int .i64 (m.held t), v], .int .i64 0]) ∧ w'.ownsRow W.heap.size 33 5 v (stkTo m t m.H).length (skCells (stkTo m t m.H))

theorem Desk.account {w : World} {rs : List Int} {x : Nat} {mon p0 p1 : Int} {m : Mt} {W : World} {N : Int} (D : Desk w rs x mon p0 p1 m W) (I : m.Inv N) {t : Nat} (ht : t < m.T) :
    Calls Try.prog 22 #[.pointer (some ⟨x, 0, none⟩), .int .i64 t] W (AccPost W m t) := by
  obtain ⟨L, rv, pb, rfl, D⟩ := D
  exact (account_yes W L m N t D.R I.ok ht).mono fun e w' ⟨v, h1, h2, h3⟩ => ⟨h2, v, h1, h3⟩

theorem Told.money {m : Mt} {t : Int} {l : List Od} (T : Told m t l) : m.held t = wantM l := by
  rw [adds_wantM.perm T.pm, wantM_of]; rfl

/-- what is known of an order that waits -/
structure Od.Seen (o : Od) (t : Int) : Prop where
  t : o.t = t
  h : ∃ h : Nat, o.h = h ∧ h < 3
  g : ∃ g : Nat, o.g = g ∧ g < 2
  s : o.s = 0 ∨ o.s = 1
  p : 1 ≤ o.p ∧ o.p ≤ 100000
  q : 1 ≤ o.q ∧ o.q ≤ 10000
  w : o.w = 0 ∨ o.w = 3

theorem Told.seen {m : Mt} {t : Int} {l : List Od} {rs : List Int} {k : Nat} (T : Told m t l) (S : Stood rs k m) (h3 : rs.length ≤ 3) {o : Od} (ho : o ∈ l) : o.Seen t := by
  obtain ⟨h1, h2⟩ := (T.mem o).1 ho
  obtain ⟨a, b, c, ha, hb, hc, hm⟩ := Mt.mem_all.1 h1
  have k := S.inv.od a b c o ha hb hc hm
  have e1 := S.H
  have e2 := S.G
  exact ⟨h2, ⟨a, k.h, by omega⟩, ⟨b, k.g, by omega⟩, by have := k.s; omega, k.p, k.q, S.jn.how ⟨ha, hb, hc⟩ hm⟩

theorem told_len {m : Mt} {t : Int} {l : List Od} {N : Int} (T : Told m t l) (I : m.Inv N) : l.length ≤ 60 := by
  have h1 := T.pm.length_eq
  have h2 := ofT_len t m.all
  have h3 := I.a60
  omega

/-- orders, as they lie -/
theorem row_at {W w' : World} {l : List Od} {va : Option Addr} {vc : Nat} (hrow : w'.ownsRow W.heap.size 42 8 (.slice va l.length vc) l.length (odCells l)) (i : Nat) (hi : i < l.length) : ∃ b, va = some ⟨b, 0, none⟩ ∧ W.heap.size ≤ b ∧ ∀ i (hi : i < l.length) j u, l[i].cells[j]? = some u → w'.cell? ⟨b, i * 8 + j, none⟩ = some u := by
  obtain ⟨ob, oc, ov, _, _⟩ := hrow.form (by omega)
  simp only [Value.slice.injEq, true_and] at ov
  obtain ⟨rfl, rfl⟩ := ov
  refine ⟨ob, rfl, (hrow.lt ob rfl).1, fun i hi j u hu => ?_⟩
  have hj : j < 8 := by have := (List.getElem?_eq_some_iff.1 hu).1; simpa [Od.cells] using this
  rw [hrow.cellAt _ (by omega), odCells_at _ _ j hi hj]
  simpa using hu
theorem srow_at {W w' : World} {l : List Sk} {va : Option Addr} {vc : Nat} (hrow : w'.ownsRow W.heap.size 33 5 (.slice va l.length vc) l.length (skCells l)) (i : Nat) (hi : i < l.length) : ∃ b, va = some ⟨b, 0, none⟩ ∧ W.heap.size ≤ b ∧ ∀ i (hi : i < l.length) j u, l[i].cells[j]? = some u → w'.cell? ⟨b, i * 5 + j, none⟩ = some u := by
  obtain ⟨ob, oc, ov, _, _⟩ := hrow.form (by omega)
  simp only [Value.slice.injEq, true_and] at ov
  obtain ⟨rfl, rfl⟩ := ov
  refine ⟨ob, rfl, (hrow.lt ob rfl).1, fun i hi j u hu => ?_⟩
  have hj : j < 5 := by have := (List.getElem?_eq_some_iff.1 hu).1; simpa [Sk.cells] using this
  rw [hrow.cellAt _ (by omega), skCells_at _ _ j hi hj]
  simpa using hu

end

section
open Go.RowKit Go.Sort

/-- a trade of so many pieces with one that waits -/
def tdOf (fee : Int → Int) (o z : Od) (n : Int) : Td := ⟨o.id, z.id, z.t, z.p, n, fee (z.p * n)⟩

/-- the trades of an order with those on the other side -/
def matchT (fee : Int → Int) : List Od → Od → List Td
  | [], _ => []
  | z :: r, o =>
    if o.q ≤ 0 then []
    else if pfits o z = false then []
    else if z.t = o.t then matchT fee r o
    else if z.q - min o.q z.q = 0 then tdOf fee o z (min o.q z.q) :: matchT fee r { o with q := o.q - min o.q z.q }
    else [tdOf fee o z (min o.q z.q)]

def feesL : List Td → Int
  | [] => 0
  | t :: r => t.f + feesL r
theorem feesL_app : ∀ a b, feesL (a ++ b) = feesL a + feesL b
  | [], b => by simp [feesL]
  | o :: r, b => by simp only [List.cons_append, feesL, feesL_app r b]; omega

theorem one_rt (m : Mt) (h g s : Nat) (o z : Od) (n p q : Int) : (noteM (oneM m h g s o z n) h g p q).rt = m.rt := by
  unfold oneM; split <;> rfl
theorem one_ho (m : Mt) (h g s : Nat) (o z : Od) (n p q : Int) : (noteM (oneM m h g s o z n) h g p q).ho = m.ho + m.fee h (z.p * n) := by
  unfold oneM; split <;> rfl
theorem release_rt (m : Mt) (t h g s : Nat) (o : Od) : (releaseM m t h g s o).rt = m.rt := by unfold releaseM; split <;> rfl
theorem release_ho (m : Mt) (t h g s : Nat) (o : Od) : (releaseM m t h g s o).ho = m.ho := by unfold releaseM; split <;> rfl
theorem fee_rt {m m' : Mt} (e : m'.rt = m.rt) (h : Nat) : m'.fee h = m.fee h := by unfold Mt.fee; rw [e]

theorem matchM_t (h g s : Nat) : ∀ (l : List Od) (m : Mt) (o : Od), (matchM h g s l m o).2.2 = matchT (m.fee h) l o ∧ (matchM h g s l m o).1.ho = m.ho + feesL (matchT (m.fee h) l o)
  | [], m, o => ⟨rfl, by simp [matchM, matchT, feesL]⟩
  | z :: r, m, o => by
    unfold matchM matchT
    by_cases h1 : o.q ≤ 0
    · rw [if_pos h1, if_pos h1]; exact ⟨rfl, by simp [feesL]⟩
    · rw [if_neg h1, if_neg h1]
      by_cases h2 : pfits o z = false
      · rw [if_pos h2, if_pos h2]; exact ⟨rfl, by simp [feesL]⟩
      · rw [if_neg h2, if_neg h2]
        by_cases h3 : z.t = o.t
        · rw [if_pos h3, if_pos h3]
          obtain ⟨i1, i2⟩ := matchM_t h g s r (releaseM (m.setBk h g s r) z.t.toNat h g s z) o
          rw [fee_rt (m := m) (by rw [release_rt]; rfl)] at i1 i2
          exact ⟨i1, by rw [i2, release_ho]; rfl⟩
        · rw [if_neg h3, if_neg h3]
          by_cases h4 : z.q - min o.q z.q = 0
          · rw [if_pos h4, if_pos h4]
            obtain ⟨i1, i2⟩ := matchM_t h g s r ((noteM (oneM m h g s o z (min o.q z.q)) h g z.p (min o.q z.q)).setBk h g s r) { o with q := o.q - min o.q z.q }
            rw [fee_rt (m := m) (show ((noteM (oneM m h g s o z (min o.q z.q)) h g z.p (min o.q z.q)).setBk h g s r).rt = m.rt from one_rt m h g s o z (min o.q z.q) z.p (min o.q z.q))] at i1 i2
            refine ⟨by simp only []; rw [i1]; rfl, ?_⟩
            simp only [feesL]
            rw [i2]
            show (noteM (oneM m h g s o z (min o.q z.q)) h g z.p (min o.q z.q)).ho + _ = _
            rw [one_ho]
            simp only [tdOf]
            omega
          · rw [if_neg h4, if_neg h4]
            refine ⟨rfl, ?_⟩
            simp only [feesL]
            rw [one_ho]
            simp only [tdOf]
            omega

/-- those of others that fit -/
def theirs (o : Od) (l : List Od) : List Od := l.filter fun z => decide (z.t ≠ o.t) && pfits o z

theorem theirs_q (o : Od) (n : Int) (l : List Od) : theirs { o with q := n } l = theirs o l := rfl

theorem theirs_none {s : Nat} (s2 : s < 2) {o : Od} (es : o.s = s) {l : List Od} (hs : l.Pairwise (Ahd (otherS s))) {z : Od} {r : List Od} (e : l = z :: r) (hf : pfits o z = false) : theirs o l = [] := by
  have h1 := left_fits s2 es hs fun y r' e' => by rw [e] at e'; injection e' with e1 _; rw [← e1]; exact hf
  unfold theirs
  refine List.filter_eq_nil_iff.2 fun y hy => ?_
  have h2 := h1 y hy
  have h3 : pfits o y = false := by
    unfold pfits
    rcases s with _ | _ | s
    · rw [if_pos (by omega)]; simp only [if_pos] at h2; simp; omega
    · rw [if_neg (by omega)]; simp at h2; simp; omega
    · omega
  simp [h3]

theorem matchT_nil {fee : Int → Int} {s : Nat} (s2 : s < 2) : ∀ (l : List Od) (o : Od), o.s = s → l.Pairwise (Ahd (otherS s)) → matchT fee l o = [] → 0 < o.q → theirs o l = []
  | [], o, _, _, _, _ => rfl
  | z :: r, o, es, hs, hm, hq => by
    unfold matchT at hm
    rw [if_neg (by omega)] at hm
    by_cases h2 : pfits o z = false
    · exact theirs_none s2 es hs rfl h2
    · rw [if_neg h2] at hm
      by_cases h3 : z.t = o.t
      · rw [if_pos h3] at hm
        have ih := matchT_nil s2 r o es (List.pairwise_cons.1 hs).2 hm hq
        unfold theirs at ih ⊢
        rw [List.filter_cons_of_neg (by simp [h3])]
        exact ih
      · rw [if_neg h3] at hm
        split at hm <;> cases hm

/-- one trade: with the first of those that fit -/
theorem matchT_step {fee : Int → Int} {s : Nat} (s2 : s < 2) : ∀ (l : List Od) (o : Od) (td : Td) (rest : List Td), o.s = s → l.Pairwise (Ahd (otherS s)) → matchT fee l o = td :: rest →
    ∃ z T l', theirs o l = z :: T ∧ td = tdOf fee o z (min o.q z.q) ∧ 0 < o.q ∧ l'.Pairwise (Ahd (otherS s)) ∧ matchT fee l' { o with q := o.q - min o.q z.q } = rest ∧
      theirs o l' = if z.q - min o.q z.q = 0 then T else { z with q := z.q - min o.q z.q } :: T
  | [], o, td, rest, _, _, hm => by cases hm
  | z :: r, o, td, rest, es, hs, hm => by
    unfold matchT at hm
    by_cases h1 : o.q ≤ 0
    · rw [if_pos h1] at hm; cases hm
    · rw [if_neg h1] at hm
      by_cases h2 : pfits o z = false
      · rw [if_pos h2] at hm; cases hm
      · rw [if_neg h2] at hm
        have h2' : pfits o z = true := by simpa using h2
        by_cases h3 : z.t = o.t
        · rw [if_pos h3] at hm
          obtain ⟨y, T, l', k1, k2, k3, k4, k5, k6⟩ := matchT_step s2 r o td rest es (List.pairwise_cons.1 hs).2 hm
          refine ⟨y, T, l', ?_, k2, k3, k4, k5, k6⟩
          unfold theirs at k1 ⊢
          rw [List.filter_cons_of_neg (by simp [h3])]
          exact k1
        · rw [if_neg h3] at hm
          have e1 : theirs o (z :: r) = z :: theirs o r := by
            unfold theirs
            rw [List.filter_cons_of_pos (by simp [h3, h2'])]
          by_cases h4 : z.q - min o.q z.q = 0
          · rw [if_pos h4] at hm
            injection hm with e2 e3
            exact ⟨z, theirs o r, r, e1, e2.symm, by omega, (List.pairwise_cons.1 hs).2, e3, by rw [if_pos h4]⟩
          · rw [if_neg h4] at hm
            injection hm with e2 e3
            refine ⟨z, theirs o r, { z with q := z.q - min o.q z.q } :: r, e1, e2.symm, by omega, ?_, ?_, ?_⟩
            · refine List.pairwise_cons.2 ⟨fun y hy => ?_, (List.pairwise_cons.1 hs).2⟩
              have := (List.pairwise_cons.1 hs).1 y hy
              rw [ahd_iff] at this ⊢
              exact this
            · rw [← e3]
              unfold matchT
              rw [if_pos (by show o.q - min o.q z.q ≤ 0; omega)]
            · rw [if_neg h4]
              unfold theirs
              rw [List.filter_cons_of_pos (by have : pfits o { z with q := z.q - min o.q z.q } = true := h2'; simp [h3, this])]

/-- the best of some, of which something is left -/
def IsBest (s : Nat) (l : List Od) (k : Nat) : Prop := ∃ z, l[k]? = some z ∧ z.q ≠ 0 ∧ ∀ (i : Nat) (y : Od), l[i]? = some y → y.q ≠ 0 → i ≠ k → Ahd s z y

def some0 (l : List Od) : List Od := l.filter fun z => decide (z.q ≠ 0)

theorem IsBest.head {s : Nat} {l : List Od} {k : Nat} (B : IsBest s l k) {z : Od} {T : List Od} (hp : (some0 l).Perm (z :: T)) (hs : (z :: T).Pairwise (Ahd s)) : l[k]? = some z := by
  obtain ⟨y, h1, h2, h3⟩ := B
  have hy : y ∈ z :: T := hp.subset (List.mem_filter.2 ⟨List.mem_of_getElem? h1, by simpa using h2⟩)
  rcases List.mem_cons.1 hy with e | hy
  · rw [h1, e]
  · have a := (List.pairwise_cons.1 hs).1 y hy
    have hz : z ∈ some0 l := hp.symm.subset (List.mem_cons_self ..)
    obtain ⟨hz1, hz2⟩ := List.mem_filter.1 hz
    obtain ⟨i, hi⟩ := List.mem_iff_getElem?.1 hz1
    by_cases e : i = k
    · subst e; rw [hi]
    · exact absurd (h3 i z hi (by simpa using hz2) e) (ahd_asymm a)

theorem set_parts {l : List Od} {k : Nat} {z : Od} (h : l[k]? = some z) (y : Od) : ∃ a b, l = a ++ z :: b ∧ l.set k y = a ++ y :: b := by
  obtain ⟨hk, e⟩ := List.getElem?_eq_some_iff.1 h
  refine ⟨l.take k, l.drop (k + 1), ?_, ?_⟩
  · rw [← e, List.getElem_cons_drop, List.take_append_drop]
  · rw [List.set_eq_take_append_cons_drop, if_pos hk]

theorem some0_set {l : List Od} {k : Nat} {z : Od} (h : l[k]? = some z) {T : List Od} (hp : (some0 l).Perm (z :: T)) (hz : z.q ≠ 0) (n : Int) : (some0 (l.set k { z with q := n })).Perm (if n = 0 then T else { z with q := n } :: T) := by
  obtain ⟨a, b, e1, e2⟩ := set_parts h { z with q := n }
  rw [e2]
  rw [e1] at hp
  unfold some0 at *
  rw [List.filter_append, List.filter_cons_of_pos (by simpa using hz)] at hp
  rw [List.filter_append]
  have h1 := (List.perm_cons z).1 ((List.perm_middle.symm).trans hp)
  by_cases e : n = 0
  · rw [List.filter_cons_of_neg (by simpa using e), if_pos e]
    exact h1
  · rw [List.filter_cons_of_pos (by simpa using e), if_neg e]
    exact List.perm_middle.trans (h1.cons _)

end

section
open Go.RowKit Go.Sort

/-- the place of the best of some, or -1 -/
def BestOf (s : Nat) (l : List Od) (r : Int) : Prop := (r = -1 ∧ ∀ y ∈ l, y.q = 0) ∨ ∃ k : Nat, r = k ∧ IsBest s l k

theorem get_snoc {l : List Od} {o y : Od} {i : Nat} (h : (l ++ [o])[i]? = some y) : (i < l.length ∧ l[i]? = some y) ∨ (i = l.length ∧ y = o) := by
  by_cases hi : i < l.length
  · rw [List.getElem?_append_left hi] at h
    exact .inl ⟨hi, h⟩
  · rw [List.getElem?_append_right (by omega)] at h
    have : i - l.length = 0 := by
      have := (List.getElem?_eq_some_iff.1 h).1
      simp at this
      omega
    rw [this] at h
    exact .inr ⟨by omega, by simpa using h.symm⟩

theorem BestOf.skip {s : Nat} {l : List Od} {r : Int} {o : Od} (h : BestOf s l r) (hq : o.q = 0) : BestOf s (l ++ [o]) r := by
  rcases h with ⟨rfl, h⟩ | ⟨k, rfl, z, h1, h2, h3⟩
  · exact .inl ⟨rfl, fun y hy => by
      rcases List.mem_append.1 hy with hy | hy
      · exact h y hy
      · rw [List.mem_singleton.1 hy]; exact hq⟩
  · have hk := (List.getElem?_eq_some_iff.1 h1).1
    refine .inr ⟨k, rfl, z, by rw [List.getElem?_append_left hk]; exact h1, h2, fun i y hi hy hne => ?_⟩
    rcases get_snoc hi with ⟨_, h4⟩ | ⟨_, rfl⟩
    · exact h3 i y h4 hy hne
    · exact absurd hq hy
theorem BestOf.first {s : Nat} {l : List Od} {o : Od} (h : BestOf s l (-1)) (hq : o.q ≠ 0) : BestOf s (l ++ [o]) l.length := by
  rcases h with ⟨_, h⟩ | ⟨k, e, _⟩
  · refine .inr ⟨l.length, rfl, o, by simp, hq, fun i y hi hy hne => ?_⟩
    rcases get_snoc hi with ⟨_, h4⟩ | ⟨h4, _⟩
    · exact absurd (h y (List.mem_of_getElem? h4)) hy
    · exact absurd h4 hne
  · omega
theorem BestOf.turn {s : Nat} {l : List Od} {k : Nat} {o z : Od} (h : BestOf s l k) (hz : l[k]? = some z) (hq : o.q ≠ 0) (ha : Ahd s o z) : BestOf s (l ++ [o]) l.length := by
  rcases h with ⟨e, _⟩ | ⟨k', e, z', h1, h2, h3⟩
  · omega
  · have e : k' = k := by omega
    subst e
    rw [h1] at hz
    have e : z' = z := by simpa using hz
    subst e
    refine .inr ⟨l.length, rfl, o, by simp, hq, fun i y hi hy hne => ?_⟩
    rcases get_snoc hi with ⟨_, h4⟩ | ⟨h4, _⟩
    · by_cases e : i = k'
      · subst e
        rw [h1] at h4
        have e : z' = y := by simpa using h4
        rw [← e]; exact ha
      · exact ahd_trans ha (h3 i y h4 hy e)
    · exact absurd h4 hne
theorem BestOf.stay {s : Nat} {l : List Od} {k : Nat} {o z : Od} (h : BestOf s l k) (hz : l[k]? = some z) (ha : Ahd s z o) : BestOf s (l ++ [o]) k := by
  rcases h with ⟨e, _⟩ | ⟨k', e, z', h1, h2, h3⟩
  · omega
  · have e : k' = k := by omega
    subst e
    rw [h1] at hz
    have e : z' = z := by simpa using hz
    subst e
    have hk := (List.getElem?_eq_some_iff.1 h1).1
    refine .inr ⟨k', rfl, z', by rw [List.getElem?_append_left hk]; exact h1, h2, fun i y hi hy hne => ?_⟩
    rcases get_snoc hi with ⟨_, h4⟩ | ⟨_, rfl⟩
    · exact h3 i y h4 hy hne
    · exact ha

def BtPost (w : World) (s : Nat) (l : List Od) (e : Ending) (w' : World) : Prop := ∃ r : Int, BestOf s l r ∧ e = .returned (.int .i64 r) ∧ ∃ n, w' = w.drewN n

set_option maxRecDepth 100000 in
set_option maxHeartbeats 8000000 in
theorem better_any (w : World) (s : Nat) (hs : s < 2) (l : List Od) (va : Option Addr) (vc : Nat) (h60 : l.length ≤ 1000) (hsd : ∀ o ∈ l, o.s = s) (hid : l.Pairwise fun a b => a.id ≠ b.id)
    (hRow : ∀ i, i < l.length → ∃ b, va = some ⟨b, 0, none⟩ ∧ ∀ i (hi : i < l.length) j u, l[i].cells[j]? = some u → w.cell? ⟨b, i * 8 + j, none⟩ = some u) :
    Calls Try.prog 20 #[.slice va l.length vc] w (BtPost w s l) := by
  have HRow := hide hRow
  have HSd := hide hsd
  have HId := hide hid
  clear hRow hsd hid
  go_enter Try.func20, Try.ntmps20
  go_wp2
  go_loopw [3, 4] (fun v i wr => ∃ (r : Int) (k : Nat), k ≤ l.length ∧ v = .int .i64 r ∧ i = .int .i64 k ∧ BestOf s (l.take k) r ∧ ∃ n, wr = w.drewN n) (fun _ i _ => l.length - (intOf i).toNat)
  case atStart => exact ⟨-1, 0, Nat.zero_le _, rfl, rfl, .inl ⟨rfl, fun y hy => by simp at hy⟩, 0, rfl⟩
  case round =>
    obtain ⟨r, j, hj, rfl, rfl, B, n, rfl⟩ := hrel
    by_cases hlj : j < l.length
    · have hlj' : (j : Int) < (l.length : Int) := by omega
      obtain ⟨b, rfl, hc⟩ := HRow.out j hlj
      have c0 := hc j hlj 0 _ rfl
      have c4 := hc j hlj 4 _ rfl
      have c5 := hc j hlj 5 _ rfl
      have c6 := hc j hlj 6 _ rfl
      simp only [Nat.add_zero] at c0
      rw [HSd.out l[j] (List.getElem_mem hlj)] at c4
      have htk : l.take (j + 1) = l.take j ++ [l[j]] := by rw [List.take_add_one, List.getElem?_eq_getElem hlj]; rfl
      have htl : (l.take j).length = j := by rw [List.length_take]; omega
      by_cases hq : l[j].q = 0
      · have HG := hide (show BestOf s (l.take (j + 1)) r by rw [htk]; exact B.skip hq)
        rw [hq] at c6
        clear B hc c0 c4 c5
        go_wp2
        exact ⟨⟨r, j + 1, by omega, rfl, by go_num, HG.out, n, rfl⟩, by simp [intOf]; omega⟩
      · have hq' : (l[j].q == 0) = false := beq_eq_false_iff_ne.2 hq
        rcases B with ⟨rfl, hall⟩ | ⟨k, rfl, B⟩
        · have HG := hide (show BestOf s (l.take (j + 1)) (j : Int) by rw [htk]; have := BestOf.first (s := s) (l := l.take j) (.inl ⟨rfl, hall⟩) hq; rw [htl] at this; exact this)
          clear hc hall
          generalize l[j] = o at *
          go_wp2
          go_quiet (fail)
          go_wp2
          exact ⟨⟨j, j + 1, by omega, rfl, by go_num, HG.out, _, rfl⟩, by simp [intOf]; omega⟩
        · obtain ⟨z, hz, hzq, hzb⟩ := B
          have hkj : k < j := by have := (List.getElem?_eq_some_iff.1 hz).1; omega
          have hkl : k < l.length := by omega
          have hkl' : (k : Int) < (l.length : Int) := by omega
          have ez : l[k] = z := by
            have := hz
            rw [List.getElem?_take, if_pos hkj, List.getElem?_eq_getElem hkl] at this
            simpa using this
          have z0 := hc k hkl 0 _ rfl
          have z5 := hc k hkl 5 _ rfl
          simp only [Nat.add_zero] at z0
          rw [ez] at z0 z5
          have hne : z.id ≠ l[j].id := by have := List.pairwise_iff_getElem.1 HId.out k j hkl hlj hkj; rw [ez] at this; exact this
          have BB : BestOf s (l.take j) k := .inr ⟨k, rfl, z, hz, hzq, hzb⟩
          have HT := hide (show Ahd s l[j] z → BestOf s (l.take (j + 1)) (j : Int) from fun h => by rw [htk]; have := BB.turn hz hq h; rw [htl] at this; exact this)
          have HY := hide (show Ahd s z l[j] → BestOf s (l.take (j + 1)) (k : Int) from fun h => by rw [htk]; exact BB.stay hz h)
          clear hc BB hz hzb hzq ez
          generalize l[j] = o at *
          have hk0 : ¬ (k : Int) < 0 := by omega
          have dk : decide ((k : Int) < 0) = false := decide_eq_false (by omega)
          have six : (s = 0 ∧ z.p < o.p) ∨ (s = 0 ∧ o.p < z.p) ∨ (s = 1 ∧ z.p < o.p) ∨ (s = 1 ∧ o.p < z.p) ∨ (o.p = z.p ∧ o.id < z.id) ∨ (o.p = z.p ∧ z.id < o.id) := by omega
          have HSx := hide six
          clear six
          rcases HSx.out with ⟨rfl, hp⟩ | ⟨rfl, hp⟩ | ⟨rfl, hp⟩ | ⟨rfl, hp⟩ | ⟨hp, hi⟩ | ⟨hp, hi⟩
          · have HG := hide (HT.out ((ahd_iff _ _ _).2 (by omega)))
            have f1 : (o.p != z.p) = true := by simp; omega
            have f2 : decide (z.p < o.p) = true := decide_eq_true hp
            clear HT HY
            go_wp2
            go_quiet (fail)
            go_wp2
            exact ⟨⟨j, j + 1, by omega, rfl, by go_num, HG.out, _, rfl⟩, by simp [intOf]; omega⟩
          · have HG := hide (HY.out ((ahd_iff _ _ _).2 (by omega)))
            have f1 : (o.p != z.p) = true := by simp; omega
            have f2 : decide (z.p < o.p) = false := decide_eq_false (by omega)
            have f3 : (o.p == z.p) = false := by simp; omega
            clear HT HY
            go_wp2
            go_quiet (fail)
            go_wp2
            exact ⟨⟨k, j + 1, by omega, rfl, by go_num, HG.out, _, rfl⟩, by simp [intOf]; omega⟩
          · have HG := hide (HY.out ((ahd_iff _ _ _).2 (by omega)))
            have f1 : (o.p != z.p) = true := by simp; omega
            have f2 : decide (z.p < o.p) = true := decide_eq_true hp
            have f3 : (o.p == z.p) = false := by simp; omega
            clear HT HY
            go_wp2
            go_quiet (fail)
            go_wp2
            exact ⟨⟨k, j + 1, by omega, rfl, by go_num, HG.out, _, rfl⟩, by simp [intOf]; omega⟩
          · have HG := hide (HT.out ((ahd_iff _ _ _).2 (by omega)))
            have f1 : (o.p != z.p) = true := by simp; omega
            have f2 : decide (z.p < o.p) = false := decide_eq_false (by omega)
            clear HT HY
            go_wp2
            go_quiet (fail)
            go_wp2
            exact ⟨⟨j, j + 1, by omega, rfl, by go_num, HG.out, _, rfl⟩, by simp [intOf]; omega⟩
          · have HG := hide (HT.out ((ahd_iff _ _ _).2 (by omega)))
            rw [hp] at c5
            have f4 : decide (o.id < z.id) = true := decide_eq_true hi
            clear HT HY hp
            go_wp2
            go_quiet (fail)
            go_wp2
            exact ⟨⟨j, j + 1, by omega, rfl, by go_num, HG.out, _, rfl⟩, by simp [intOf]; omega⟩
          · have HG := hide (HY.out ((ahd_iff _ _ _).2 (by omega)))
            rw [hp] at c5
            have f4 : decide (o.id < z.id) = false := decide_eq_false (by omega)
            clear HT HY hp
            go_wp2
            go_quiet (fail)
            go_wp2
            exact ⟨⟨k, j + 1, by omega, rfl, by go_num, HG.out, _, rfl⟩, by simp [intOf]; omega⟩
    · have hjl : j = l.length := by omega
      have HG := hide B
      rw [hjl, List.take_length] at HG
      have hlj' : ¬ (j : Int) < (l.length : Int) := by omega
      clear B
      go_wp2
      go_ret
      exact ⟨r, HG.out, rfl, n, rfl⟩

end

end Go.Proofs.Ytcfoobhihhndjaa

/- Held: the loop over orders. -/
namespace Go.Proofs.Ytcfoobhihhndjaa

section
open Go.RowKit Go.Sort

/-- the loops of a body, the outer ahead of the inner -/
def loopsIn : Code → List Code
  | .loop c => c :: loopsIn c
  | .seq a b => loopsIn a ++ loopsIn b
  | .block _ c => loopsIn c
  | .scope c => loopsIn c
  | .cond _ a b => loopsIn a ++ loopsIn b
  | _ => []
def loopAt (f : Func) (n : Nat) : Code := ((f.body.map loopsIn).getD []).getD n .skip

set_option maxRecDepth 1000000 in
set_option maxHeartbeats 16000000 in
theorem held_l3 {w3 : World} {PB : Nat} {t : Nat} {l : List Od} {va : Option Addr} {vc : Nat} {m : Mt} (T : Told m t l) (hl60 : l.length ≤ 60) (hSeen : ∀ o ∈ l, o.Seen t) (P0 : PcSt w3 PB (fun _ _ => 0) w3)
    (hRow : ∀ i, i < l.length → ∃ b, va = some ⟨b, 0, none⟩ ∧ PB + 1 ≤ b ∧ ∀ i (hi : i < l.length) j u, l[i].cells[j]? = some u → w3.cell? ⟨b, i * 8 + j, none⟩ = some u)
    (Q : Exit → Act → World → Prop) (u0 u1 u2 u3 u4 u5 u6 u11 u13 u14 u15 u16 u17 u18 u19 u20 u21 u22 u23 u24 u25 u26 u27 u28 u29 u30 u31 u32 u33 u34 u35 u36 u37 u38 u39 u40 u41 u42 u43 u44 u45 u46 u47 u48 u49 u50 u51 u52 u53 u54 u55 u56 u57 u58 u59 u60 u61 u62 u63 u64 u65 u66 u67 u68 u69 u70 u71 u72 u73 u74 u75 u76 u77 u78 u79 u80 u81 u82 u83 u84 u85 u86 u87 u88 u89 u90 u91 u92 u93 u94 u95 u96 u97 u98 u99 u100 u101 u102 u103 u104 u105 u106 u107 u108 u109 u110 u111 u112 u113 u114 u115 u116 u117 u118 u119 u120 u121 u122 u123 u124 u125 u126 u127 u128 u129 u130 u131 u132 u133 u134 u135 u136 u137 u138 u139 u140 u141 u142 u143 u144 u145 u146 u147 u148 u149 u150 u151 u152 u153 u154 u155 u156 u157 u158 u159 u160 u161 u162 u163 u164 u165 u166 u167 u168 u169 u170 u171 u172 u173 u174 u175 u176 u177 u178 u179 u180 u181 u182 u183 u184 u185 u186 u187 u188 u189 u190 u191 u192 u193 u194 u195 u196 u197 u198 u199 u200 u201 u202 u203 u204 u205 u206 u207 u208 u209 u210 u211 u212 u213 u214 u215 u216 u217 u218 u219 u220 u221 u222 u223 u224 u225 u226 : Value)
    (hE : ∀ (n4 n13 n52 n53 n54 n55 n56 n57 n58 n59 n60 n61 n62 n63 n64 n65 n66 n67 n68 n69 n70 n71 n72 n73 n74 n75 n76 n77 n78 n79 n80 n81 n82 n83 n84 n85 n86 n87 n88 n89 n90 n91 n92 n93 n94 n95 n96 n97 n98 n99 n100 n101 n102 n103 n104 n105 n106 n107 n108 n109 n110 n111 n112 n113 n114 n115 n116 n117 n118 n119 n120 n121 n122 n123 n124 n125 n126 n127 n128 n129 n130 n131 n132 n133 n134 n135 n136 n137 n138 n139 n140 n141 : Value) (W' : World), PcSt w3 PB (fun h g => wantP h g l) W' → Q (.exit 4) ⟨#[u0, u1, u2, u3, n4, u5, u6, .int .i64 t, .int .i64 (wantM l), .pointer (some ⟨PB, 0, none⟩), .slice va l.length vc, u11, .int .i64 l.length, n13, u14, u15, u16, u17, u18, u19, u20, u21, u22, u23, u24, u25, u26, u27, u28, u29, u30, u31, u32, u33, u34, u35, u36, u37, u38, u39, u40, u41, u42, u43, u44, u45, u46, u47, u48, u49, u50, u51, n52, n53, n54, n55, n56, n57, n58, n59, n60, n61, n62, n63, n64, n65, n66, n67, n68, n69, n70, n71, n72, n73, n74, n75, n76, n77, n78, n79, n80, n81, n82, n83, n84, n85, n86, n87, n88, n89, n90, n91, n92, n93, n94, n95, n96, n97, n98, n99, n100, n101, n102, n103, n104, n105, n106, n107, n108, n109, n110, n111, n112, n113, n114, n115, n116, n117, n118, n119, n120, n121, n122, n123, n124, n125, n126, n127, n128, n129, n130, n131, n132, n133, n134, n135, n136, n137, n138, n139, n140, n141, u142, u143, u144, u145, u146, u147, u148, u149, u150, u151, u152, u153, u154, u155, u156, u157, u158, u159, u160, u161, u162, u163, u164, u165, u166, u167, u168, u169, u170, u171, u172, u173, u174, u175, u176, u177, u178, u179, u180, u181, u182, u183, u184, u185, u186, u187, u188, u189, u190, u191, u192, u193, u194, u195, u196, u197, u198, u199, u200, u201, u202, u203, u204, u205, u206, u207, u208, u209, u210, u211, u212, u213, u214, u215, u216, u217, u218, u219, u220, u221, u222, u223, u224, u225, u226], []⟩ W') :
    Code.wp Try.prog (Code.loop (loopAt Try.f6 2)) Q ⟨#[u0, u1, u2, u3, u4, u5, u6, .int .i64 t, .int .i64 0, .pointer (some ⟨PB, 0, none⟩), .slice va l.length vc, u11, .int .i64 0, u13, u14, u15, u16, u17, u18, u19, u20, u21, u22, u23, u24, u25, u26, u27, u28, u29, u30, u31, u32, u33, u34, u35, u36, u37, u38, u39, u40, u41, u42, u43, u44, u45, u46, u47, u48, u49, u50, u51, u52, u53, u54, u55, u56, u57, u58, u59, u60, u61, u62, u63, u64, u65, u66, u67, u68, u69, u70, u71, u72, u73, u74, u75, u76, u77, u78, u79, u80, u81, u82, u83, u84, u85, u86, u87, u88, u89, u90, u91, u92, u93, u94, u95, u96, u97, u98, u99, u100, u101, u102, u103, u104, u105, u106, u107, u108, u109, u110, u111, u112, u113, u114, u115, u116, u117, u118, u119, u120, u121, u122, u123, u124, u125, u126, u127, u128, u129, u130, u131, u132, u133, u134, u135, u136, u137, u138, u139, u140, u141, u142, u143, u144, u145, u146, u147, u148, u149, u150, u151, u152, u153, u154, u155, u156, u157, u158, u159, u160, u161, u162, u163, u164, u165, u166, u167, u168, u169, u170, u171, u172, u173, u174, u175, u176, u177, u178, u179, u180, u181, u182, u183, u184, u185, u186, u187, u188, u189, u190, u191, u192, u193, u194, u195, u196, u197, u198, u199, u200, u201, u202, u203, u204, u205, u206, u207, u208, u209, u210, u211, u212, u213, u214, u215, u216, u217, u218, u219, u220, u221, u222, u223, u224, u225, u226], []⟩ w3 := by
  have HRow := hide hRow
  have HSeen := hide hSeen
  have HT := hide T
  have HP0 := hide P0
  have HEx := hide hE
  have HT0 := hide (show wantM (l.take 0) = 0 ∧ ∀ h g, wantP h g (l.take 0) = 0 from ⟨rfl, fun _ _ => rfl⟩)
  clear T hSeen P0 hRow hE
  conv => arg 2; arg 1; whnf
  dsimp only
  go_loopw [8, 12] (fun mo i wr => ∃ k : Nat, k ≤ l.length ∧ mo = .int .i64 (wantM (l.take k)) ∧ i = .int .i64 k ∧ PcSt w3 PB (fun h g => wantP h g (l.take k)) wr) (fun _ i _ => l.length - (intOf i).toNat)
  case atStart => exact ⟨0, Nat.zero_le _, by rw [HT0.out.1], rfl, HP0.out.ext fun a b _ _ => (HT0.out.2 a b).symm⟩
  case round =>
    clear HP0 HT0
    obtain ⟨j, hj, rfl, rfl, S⟩ := hrel
    by_cases hlj : j < l.length
    · obtain ⟨b', rfl, hbl, hc⟩ := HRow.out j hlj
      have ne : ¬ b' = PB := by omega
      have y0 := S.kp.cell (hc j hlj 0 _ rfl) ne
      have y1 := S.kp.cell (hc j hlj 1 _ rfl) ne
      have y2 := S.kp.cell (hc j hlj 2 _ rfl) ne
      have y3 := S.kp.cell (hc j hlj 3 _ rfl) ne
      have y4 := S.kp.cell (hc j hlj 4 _ rfl) ne
      have y5 := S.kp.cell (hc j hlj 5 _ rfl) ne
      have y6 := S.kp.cell (hc j hlj 6 _ rfl) ne
      have y7 := S.kp.cell (hc j hlj 7 _ rfl) ne
      simp only [Nat.add_zero] at y0
      have hlj' : (j : Int) < (l.length : Int) := by omega
      have Sn := HSeen.out l[j] (List.getElem_mem hlj)
      have bM := wantM_bd (l.take j) fun o ho => ⟨(HSeen.out o (List.mem_of_mem_take ho)).p, (HSeen.out o (List.mem_of_mem_take ho)).q⟩
      have bP := fun h g => wantP_bd h g (l.take j) fun o ho => (HSeen.out o (List.mem_of_mem_take ho)).q
      have hlen : (l.take j).length ≤ 60 := by rw [List.length_take]; omega
      have HNx := hide (And.intro (wantM_step hlj) (fun h g => wantP_step h g hlj))
      have HPr := hide (fun (h0 : 0 < j) => show ∃ pid : Int, pid < l[j].id ∧ wr.cell? ⟨b', (j - 1) * 8, none⟩ = some (.int .i64 pid) from by
        refine ⟨l[j - 1].id, List.pairwise_iff_getElem.1 HT.out.up (j - 1) j (by omega) hlj (by omega), ?_⟩
        have := S.kp.cell (hc (j - 1) (by omega) 0 _ rfl) ne
        simpa using this)
      have HSS := hide S
      have lb' : b' < wr.heap.size := World.block_lt_of_cell? wr _ y0
      clear hc S ne
      generalize l[j] = o at *
      generalize wantM (l.take j) = wm at *
      generalize hwp : (fun h g => wantP h g (l.take j)) = wp at *
      obtain ⟨et, ⟨oh, eh, hh⟩, ⟨og, eg, hg⟩, s01, ⟨p1, p2⟩, ⟨q1, q2⟩, w03⟩ := Sn
      rw [et] at y1
      rw [eh] at y2
      rw [eg] at y3
      have HFirst := hide (And.intro y0 (And.intro y1 (And.intro y2 (And.intro y3 (And.intro y4 (And.intro y5 (And.intro y6 y7)))))))
      have e2 : decide (o.q < 1) = false := decide_eq_false (by omega)
      have e3 : decide ((oh : Int) < 0) = false := decide_eq_false (by omega)
      have e4 : decide (2 < (oh : Int)) = false := decide_eq_false (by omega)
      have e4' : decide (2 < oh) = false := decide_eq_false (by omega)
      have e5 : decide ((og : Int) < 0) = false := decide_eq_false (by omega)
      have e6 : decide (1 < (og : Int)) = false := decide_eq_false (by omega)
      have e6' : decide (1 < og) = false := decide_eq_false (by omega)
      have HW : Hid (o.w = 0 ∨ o.w = 3) := hide w03
      have HS01 : Hid (o.s = 0 ∨ o.s = 1) := hide s01
      clear w03 s01
      go_wp2_with fail
      have hb4 := heap_alloc_new wr (.cells #[.int .i64 o.id, .int .i64 t, .int .i64 oh, .int .i64 og, .int .i64 o.s, .int .i64 o.p, .int .i64 o.q, .int .i64 o.w] 42)
      have k4 : Kep non wr (wr.alloc (.cells #[.int .i64 o.id, .int .i64 t, .int .i64 oh, .int .i64 og, .int .i64 o.s, .int .i64 o.p, .int .i64 o.q, .int .i64 o.w] 42)) := (Kep.refl _ _).alloc _
      have HS4 := hide (HSS.out.later k4)
      have HPr4 := hide (fun (h0 : 0 < j) => show ∃ pid : Int, pid < o.id ∧ (wr.alloc (.cells #[.int .i64 o.id, .int .i64 t, .int .i64 oh, .int .i64 og, .int .i64 o.s, .int .i64 o.p, .int .i64 o.q, .int .i64 o.w] 42)).cell? ⟨b', (j - 1) * 8, none⟩ = some (.int .i64 pid) from by
        obtain ⟨pid, h1, h2⟩ := HPr.out h0
        exact ⟨pid, h1, k4.cell h2 (fun f => f)⟩)
      generalize hB : wr.heap.size = B at *
      generalize wr.alloc (.cells #[.int .i64 o.id, .int .i64 t, .int .i64 oh, .int .i64 og, .int .i64 o.s, .int .i64 o.p, .int .i64 o.q, .int .i64 o.w] 42) = W4 at *
      have Hb4 := hide hb4
      clear hb4 k4 y0 y1 y2 y3 y4 y5 y6 y7 HSS HPr HFirst
      go_cut [115] from 62 to 115 (fun v115 wx => v115 = .bool false ∧ ∃ n, wx = W4.drewN n)
      case first =>
        clear HEx HNx bP hwp HT HSeen HRow HS01 HS4 lb' hB
        have hb4 := Hb4.out
        have z0 := cell_of_row _ _ 0 _ _ _ hb4
        have z1 := cell_of_row _ _ 1 _ _ _ hb4
        have z2 := cell_of_row _ _ 2 _ _ _ hb4
        have z3 := cell_of_row _ _ 3 _ _ _ hb4
        have z6 := cell_of_row _ _ 6 _ _ _ hb4
        have z7 := cell_of_row _ _ 7 _ _ _ hb4
        clear hb4 Hb4
        rcases Nat.eq_zero_or_pos j with hj0 | hj0
        · subst hj0
          clear HPr4
          rcases HW.out with hw | hw
          all_goals
            rw [hw] at z7
            go_quiet (fail)
            go_wp2
            go_meet
            exact ⟨rfl, _, rfl⟩
        · obtain ⟨i, rfl⟩ : ∃ i, j = i + 1 := ⟨j - 1, by omega⟩
          obtain ⟨pid, hpid, zp⟩ := HPr4.out hj0
          rw [Nat.add_sub_cancel] at zp
          have e7 : decide (o.id ≤ pid) = false := decide_eq_false (by omega)
          have e8 : decide (0 < ((i + 1 : Nat) : Int)) = true := decide_eq_true (by omega)
          have e8' : decide (0 < i + 1) = true := decide_eq_true (by omega)
          clear HPr4
          rcases HW.out with hw | hw
          all_goals
            rw [hw] at z7
            go_quiet (fail)
            go_wp2
            go_meet
            exact ⟨rfl, _, rfl⟩
      case rest =>
        obtain ⟨rfl, nq, rfl⟩ := hcut
        have S5 := HS4.out.later ((Kep.refl non W4).drewN nq)
        have hb5 := (((Kep.refl non W4).drewN nq).block B (Array.getElem?_eq_some_iff.1 Hb4.out).1 (fun f => f)).trans Hb4.out
        clear HS4 Hb4 HPr4 HT HSeen HRow HW
        generalize W4.drewN nq = W5 at *
        have z2 := cell_of_row _ _ 2 _ _ _ hb5
        have z3 := cell_of_row _ _ 3 _ _ _ hb5
        have z4 := cell_of_row _ _ 4 _ _ _ hb5
        have z5 := cell_of_row _ _ 5 _ _ _ hb5
        have z6 := cell_of_row _ _ 6 _ _ _ hb5
        have pq := mul_le' (a := o.p) (b := o.q) (A := 100000) (B := 10000) (by omega) p2 (by omega) q2
        obtain ⟨pq0, pq1⟩ := pq
        rcases HS01.out with hs | hs
        · rw [hs] at z4
          have HG := hide (show ∃ k : Nat, k ≤ l.length ∧ wm + o.p * o.q = wantM (l.take k) ∧ (k : Int) = (j : Int) + 1 ∧ PcSt w3 PB (fun h g => wantP h g (l.take k)) W5 from ⟨j + 1, by omega, by rw [HNx.out.1, if_pos hs], by simp, S5.ext fun a b _ _ => by rw [HNx.out.2, if_neg (fun f => f.1 hs), Int.add_zero, ← hwp]⟩)
          clear S5 HNx hwp bP HEx
          go_wp2
          obtain ⟨k', g1, g2, g3, g4⟩ := HG.out
          exact ⟨⟨k', g1, by rw [g2], by rw [g3], g4⟩, by simp [intOf]; omega⟩
        · rw [hs] at z4
          obtain ⟨V6, hV6, k6⟩ : ∃ V6, V6 = W5.drew ∧ Kep non W5 V6 := ⟨_, rfl, (Kep.refl _ _).drew⟩
          have S6 := S5.later k6
          obtain ⟨tc, tf⟩ := S6.pc oh og hh hg
          have x2 := k6.cell z2 (fun f => f)
          have x3 := k6.cell z3 (fun f => f)
          have x6 := k6.cell z6 (fun f => f)
          have HV6 := hide hV6
          have bq : 0 ≤ wp oh og ∧ wp oh og ≤ 600000 := by have := bP oh og; rw [← hwp]; simp only []; omega
          have hh' : (oh : Int) < 3 := by omega
          have hg' : (og : Int) < 2 := by omega
          have HG := hide (show ∃ k : Nat, k ≤ l.length ∧ wm = wantM (l.take k) ∧ (k : Int) = (j : Int) + 1 ∧ PcSt w3 PB (fun h g => wantP h g (l.take k)) (V6.setCell ⟨PB, oh * 2 + og, none⟩ (.int .i64 (wp oh og + o.q))) from ⟨j + 1, by omega, by rw [HNx.out.1, if_neg (by omega), Int.add_zero], by simp, (S6.put hh hg (wp oh og + o.q)).ext fun a b _ _ => by
            rw [HNx.out.2]
            by_cases e : a = oh ∧ b = og
            · obtain ⟨rfl, rfl⟩ := e
              rw [if_pos ⟨rfl, rfl⟩, if_pos ⟨by omega, eh, eg⟩, ← hwp]
            · rw [if_neg e, if_neg (fun f => e ⟨by have := f.2.1; omega, by have := f.2.2; omega⟩), Int.add_zero, ← hwp]⟩)
          clear S5 S6 HNx hwp bP HEx hV6 k6 e2 e3 e4 e4' e5 e6 e6' pq0 pq1 hlen bM
          go_wp2_with fail
          refine region_tail 16 (by kernel_rfl) (by kernel_rfl) V6 HV6.out ?_
          simp only [List.take_succ_cons, List.take_zero, List.drop_succ_cons, List.drop_zero]
          repeat still_step
          refine wpStill_nil ?_
          go_wp2
          obtain ⟨k', g1, g2, g3, g4⟩ := HG.out
          exact ⟨⟨k', g1, by rw [g2], by rw [g3], g4⟩, by simp [intOf]; omega⟩
    · have hjl : j = l.length := by omega
      have HS5 := hide S
      rw [hjl, List.take_length] at HS5
      have HM := hide (show wantM (l.take j) = wantM l by rw [hjl, List.take_length])
      have hlj' : ¬ (j : Int) < (l.length : Int) := by omega
      clear S HSeen HRow HT
      generalize wantM (l.take j) = wm at *
      go_wp2
      (try rw [HM.out])
      (try rw [hjl])
      exact HEx.out _ _ _ _ _ _ _ _ _ _ _ _ _ _ _ _ _ _ _ _ _ _ _ _ _ _ _ _ _ _ _ _ _ _ _ _ _ _ _ _ _ _ _ _ _ _ _ _ _ _ _ _ _ _ _ _ _ _ _ _ _ _ _ _ _ _ _ _ _ _ _ _ _ _ _ _ _ _ _ _ _ _ _ _ _ _ _ _ _ _ _ _ _ HS5.out

end

end Go.Proofs.Ytcfoobhihhndjaa

/- Undone: regions, by their number. -/
namespace Go.Proofs.Ytcfoobhihhndjaa
open Go.RowKit Go.Sort

/-- an end that is no panic -/
def calmQ (Q : Exit → Act → World → Prop) : Exit → Act → World → Prop
  | .normal, a, w => Q .normal a w
  | _, _, _ => False
theorem calmQ_out (Q : Exit → Act → World → Prop) : ∀ e a w, calmQ Q e a w → Q e a w := fun e a w h => by
  cases e <;> first | exact h | exact h.elim

/-- a region of a body, by its number -/
def regQ (n : Nat) : Code → Option Code
  | .region id ops b => if id = n then some (.region id ops b) else none
  | .seq a b => match regQ n a with
    | some c => some c
    | none => regQ n b
  | .block _ c => regQ n c
  | .loop c => regQ n c
  | .scope c => regQ n c
  | .cond _ a b => match regQ n a with
    | some c => some c
    | none => regQ n b
  | _ => none
def regOf (f : Func) (n : Nat) : Code := ((f.body.bind (regQ n)).getD .skip)

end Go.Proofs.Ytcfoobhihhndjaa
