/- Apart: levels, and the orders that they are of; counted: the loop over levels. -/
import Derived.Test.YtcfoobhihhndjaaLv
import Derived.Test.YtcfoobhihhndjaaHc
namespace Go.Proofs.Ytcfoobhihhndjaa

section
open Go.RowKit Go.Sort

/-- pieces at a price, orders at a price -/
def sumQ (p : Int) : List Od → Int
  | [] => 0
  | o :: r => (if o.p = p then o.q else 0) + sumQ p r
def cntP (p : Int) : List Od → Int
  | [] => 0
  | o :: r => (if o.p = p then 1 else 0) + cntP p r

theorem sumQ_app (p : Int) : ∀ a b, sumQ p (a ++ b) = sumQ p a + sumQ p b
  | [], b => by simp [sumQ]
  | o :: r, b => by simp only [List.cons_append, sumQ, sumQ_app p r b]; omega
theorem cntP_app (p : Int) : ∀ a b, cntP p (a ++ b) = cntP p a + cntP p b
  | [], b => by simp [cntP]
  | o :: r, b => by simp only [List.cons_append, cntP, cntP_app p r b]; omega
theorem sumQ_perm {p : Int} {a b : List Od} (h : a.Perm b) : sumQ p a = sumQ p b := by
  induction h with
  | nil => rfl
  | cons x _ ih => simp only [sumQ, ih]
  | swap x y l => simp only [sumQ]; omega
  | trans _ _ h1 h2 => exact h1.trans h2
theorem cntP_perm {p : Int} {a b : List Od} (h : a.Perm b) : cntP p a = cntP p b := by
  induction h with
  | nil => rfl
  | cons x _ ih => simp only [cntP, ih]
  | swap x y l => simp only [cntP]; omega
  | trans _ _ h1 h2 => exact h1.trans h2
theorem sumQ_zero {p : Int} : ∀ {a : List Od}, (∀ o ∈ a, o.p ≠ p) → sumQ p a = 0 ∧ cntP p a = 0
  | [], _ => ⟨rfl, rfl⟩
  | o :: r, h => by
    have ih := sumQ_zero fun y hy => h y (List.mem_cons_of_mem _ hy)
    have h1 := h o (List.mem_cons_self ..)
    simp only [sumQ, cntP, if_neg h1, ih.1, ih.2]
    exact ⟨rfl, rfl⟩
theorem sumQ_bd (p : Int) : ∀ {a : List Od}, (∀ o ∈ a, 1 ≤ o.q ∧ o.q ≤ 10000) → (0 ≤ sumQ p a ∧ sumQ p a ≤ 10000 * (a.length : Int)) ∧ 0 ≤ cntP p a ∧ cntP p a ≤ (a.length : Int)
  | [], _ => by simp [sumQ, cntP]
  | o :: r, h => by
    have ih := sumQ_bd p fun y hy => h y (List.mem_cons_of_mem _ hy)
    have h1 := h o (List.mem_cons_self ..)
    simp only [sumQ, cntP, List.length_cons]
    split <;> omega

/-- a price that is ahead of another -/
def Sr (s : Nat) (a b : Int) : Prop := if s = 0 then b < a else a < b
theorem sr_ne {s : Nat} {a b : Int} (h : Sr s a b) : a ≠ b := by unfold Sr at h; split at h <;> omega
theorem sr_of {s : Nat} {a b : Int} (h : ¬ Sr s b a) (e : a ≠ b) : Sr s a b := by unfold Sr at *; split at h <;> simp_all <;> omega
theorem sr_trans {s : Nat} {a b c : Int} (h : Sr s a b) (k : ¬ Sr s c b) : Sr s a c := by unfold Sr at *; split at h <;> simp_all <;> omega

structure LvOk (s : Nat) (os : List Od) (gs : List Lv) : Prop where
  pw : gs.Pairwise fun a b => Sr s a.p b.p
  sq : ∀ l ∈ gs, l.q = sumQ l.p os ∧ l.n = cntP l.p os
  ex : ∀ o ∈ os, ∃ l ∈ gs, l.p = o.p
  fr : ∀ l ∈ gs, ∃ o ∈ os, o.p = l.p
  la : ∀ y, os.getLast? = some y → ∃ l, gs.getLast? = some l ∧ l.p = y.p
  hd : ∀ y, os.head? = some y → ∃ l, gs.head? = some l ∧ l.p = y.p

theorem LvOk.step {s : Nat} {pre : List Od} {gs : List Lv} (h : LvOk s pre gs) {o : Od} (ho : ∀ y ∈ pre, ¬ Sr s o.p y.p) : LvOk s (pre ++ [o]) (lvStep gs o) := by
  cases e : gs.getLast? with
  | none =>
    have eg : gs = [] := List.getLast?_eq_none_iff.1 e
    subst eg
    have ep : pre = [] := by
      cases pre with
      | nil => rfl
      | cons y r => obtain ⟨l, hl, _⟩ := h.ex y (List.mem_cons_self ..); cases hl
    subst ep
    have e1 : lvStep [] o = [⟨o.p, o.q, 1⟩] := rfl
    rw [e1]
    refine ⟨List.pairwise_singleton _ _, fun l hl => ?_, fun y hy => ⟨_, List.mem_singleton_self _, ?_⟩, fun l hl => ⟨o, by simp, ?_⟩, fun y hy => ⟨⟨o.p, o.q, 1⟩, rfl, ?_⟩, fun y hy => ⟨⟨o.p, o.q, 1⟩, rfl, ?_⟩⟩
    · rw [List.mem_singleton.1 hl]; simp [sumQ, cntP]
    · rw [List.nil_append] at hy; rw [List.mem_singleton.1 hy]
    · rw [List.mem_singleton.1 hl]
    · simp at hy; rw [← hy]
    · simp at hy; rw [← hy]
  | some z =>
    obtain ⟨g0, rfl⟩ : ∃ g0, gs = g0 ++ [z] := ⟨gs.dropLast, (dropLast_of e).symm⟩
    obtain ⟨p1, p2, p3⟩ := List.pairwise_append.1 h.pw
    obtain ⟨y0, hy0, ey0⟩ := h.fr z (by simp)
    have hne : pre ≠ [] := fun f => by rw [f] at hy0; cases hy0
    obtain ⟨y, hy⟩ : ∃ y, pre.getLast? = some y := ⟨_, List.getLast?_eq_some_getLast hne⟩
    obtain ⟨l, hl, el⟩ := h.la y hy
    have ez : z = l := by simpa using hl
    subst ez
    have hyo := ho y (List.mem_of_getLast? hy)
    rw [← el] at hyo
    have hz := h.sq z (by simp)
    have hdp : (pre ++ [o]).head? = pre.head? := by cases pre with
      | nil => exact absurd rfl hne
      | cons a r => rfl
    by_cases ep : z.p = o.p
    · have e1 : lvStep (g0 ++ [z]) o = g0 ++ [⟨z.p, z.q + o.q, z.n + 1⟩] := by
        unfold lvStep; rw [e]; simp only; rw [if_pos ep]; simp
      rw [e1]
      have h0 : ∀ l ∈ g0, l.p ≠ o.p := fun l hl => by rw [← ep]; exact sr_ne (p3 l hl z (by simp))
      refine ⟨List.pairwise_append.2 ⟨p1, List.pairwise_singleton _ _, fun a ha b hb => ?_⟩, fun l hl => ?_, fun x hx => ?_, fun l hl => ?_, fun x hx => ?_, fun x hx => ?_⟩
      · rw [List.mem_singleton.1 hb]; exact p3 a ha z (by simp)
      · rw [sumQ_app, cntP_app]
        rcases List.mem_append.1 hl with hl | hl
        · have := h.sq l (by simp [hl])
          simp only [sumQ, cntP, if_neg (Ne.symm (h0 l hl))]
          omega
        · rw [List.mem_singleton.1 hl]
          simp only [sumQ, cntP, if_pos ep.symm]
          omega
      · rcases List.mem_append.1 hx with hx | hx
        · obtain ⟨l, hl, e2⟩ := h.ex x hx
          rcases List.mem_append.1 hl with hl | hl
          · exact ⟨l, by simp [hl], e2⟩
          · rw [List.mem_singleton.1 hl] at e2
            exact ⟨_, List.mem_append_right _ (List.mem_singleton_self _), e2⟩
        · rw [List.mem_singleton.1 hx]
          exact ⟨_, List.mem_append_right _ (List.mem_singleton_self _), ep⟩
      · rcases List.mem_append.1 hl with hl | hl
        · obtain ⟨x, hx, e2⟩ := h.fr l (by simp [hl])
          exact ⟨x, by simp [hx], e2⟩
        · rw [List.mem_singleton.1 hl]
          exact ⟨o, by simp, ep.symm⟩
      · have : o = x := by simpa using hx
        subst this
        exact ⟨⟨z.p, z.q + o.q, z.n + 1⟩, by simp, ep⟩
      · rw [hdp] at hx
        obtain ⟨l, hl, e2⟩ := h.hd x hx
        cases g0 with
        | nil =>
          have : z = l := by simpa using hl
          subst this
          exact ⟨_, rfl, e2⟩
        | cons a r => exact ⟨l, hl, e2⟩
    · have e1 : lvStep (g0 ++ [z]) o = g0 ++ [z] ++ [⟨o.p, o.q, 1⟩] := by
        unfold lvStep; rw [e]; simp only; rw [if_neg ep]
      rw [e1]
      have hzo : Sr s z.p o.p := sr_of hyo ep
      have hall : ∀ l ∈ g0 ++ [z], Sr s l.p o.p := fun l hl => by
        rcases List.mem_append.1 hl with hl | hl
        · exact sr_trans (p3 l hl z (by simp)) hyo
        · rw [List.mem_singleton.1 hl]; exact hzo
      have hno : ∀ x ∈ pre, x.p ≠ o.p := fun x hx f => by
        obtain ⟨l, hl, e2⟩ := h.ex x hx
        exact sr_ne (hall l hl) (e2.trans f)
      refine ⟨List.pairwise_append.2 ⟨h.pw, List.pairwise_singleton _ _, fun a ha b hb => ?_⟩, fun l hl => ?_, fun x hx => ?_, fun l hl => ?_, fun x hx => ?_, fun x hx => ?_⟩
      · rw [List.mem_singleton.1 hb]; exact hall a ha
      · rw [sumQ_app, cntP_app]
        rcases List.mem_append.1 hl with hl | hl
        · have := h.sq l hl
          simp only [sumQ, cntP, if_neg (Ne.symm (sr_ne (hall l hl)))]
          omega
        · rw [List.mem_singleton.1 hl]
          have := sumQ_zero hno
          simp only [sumQ, cntP, if_pos]
          omega
      · rcases List.mem_append.1 hx with hx | hx
        · obtain ⟨l, hl, e2⟩ := h.ex x hx
          exact ⟨l, List.mem_append_left _ hl, e2⟩
        · rw [List.mem_singleton.1 hx]
          exact ⟨_, List.mem_append_right _ (List.mem_singleton_self _), rfl⟩
      · rcases List.mem_append.1 hl with hl | hl
        · obtain ⟨x, hx, e2⟩ := h.fr l hl
          exact ⟨x, by simp [hx], e2⟩
        · rw [List.mem_singleton.1 hl]
          exact ⟨o, by simp, rfl⟩
      · have : o = x := by simpa using hx
        subst this
        exact ⟨⟨o.p, o.q, 1⟩, by simp, rfl⟩
      · rw [hdp] at hx
        obtain ⟨l, hl, e2⟩ := h.hd x hx
        refine ⟨l, ?_, e2⟩
        cases g0 with
        | nil => exact hl
        | cons a r => exact hl

theorem lvOk {s : Nat} (os : List Od) (h : os.Pairwise fun a b => ¬ Sr s b.p a.p) : LvOk s os (lvL os) := by
  have gen : ∀ k, k ≤ os.length → LvOk s (os.take k) (lvL (os.take k)) := fun k => by
    induction k with
    | zero => intro _; exact ⟨List.Pairwise.nil, fun l hl => (by cases hl), fun o ho => (by simp at ho), fun l hl => (by cases hl), fun y hy => (by simp at hy), fun y hy => (by simp at hy)⟩
    | succ k ih =>
      intro hk
      have i := ih (by omega)
      rw [List.take_add_one, List.getElem?_eq_getElem (by omega), Option.toList_some, lvL_snoc]
      refine i.step fun y hy => ?_
      obtain ⟨j, hj, e⟩ := List.mem_iff_getElem.1 hy
      rw [List.length_take] at hj
      have h1 := List.pairwise_iff_getElem.1 h j k (by omega) (by omega) (by omega)
      rw [List.getElem_take] at e
      rw [← e]
      exact h1
  have := gen os.length (Nat.le_refl _)
  rwa [List.take_length] at this

end

section
open Go.RowKit Go.Sort

/-- a level, less an order of its price -/
def lvMinus (o : Od) (l : Lv) : Lv := if l.p = o.p then ⟨l.p, l.q - o.q, l.n - 1⟩ else l
def lvPart (gs : List Lv) (o : Od) (k : Nat) : List Lv := (gs.take k).map (lvMinus o) ++ gs.drop k
def lvSubL (gs : List Lv) (dn : List Od) : List Lv := gs.map fun l => ⟨l.p, l.q - sumQ l.p dn, l.n - cntP l.p dn⟩
def cntL (p : Int) : List Lv → Int
  | [] => 0
  | l :: r => (if l.p = p then 1 else 0) + cntL p r

theorem lvMinus_p (o : Od) (l : Lv) : (lvMinus o l).p = l.p := by unfold lvMinus; split <;> rfl
theorem lvPart_len (gs : List Lv) (o : Od) (k : Nat) : (lvPart gs o k).length = gs.length := by
  unfold lvPart
  rw [List.length_append, List.length_map, List.length_take, List.length_drop]
  omega
theorem lvPart_zero (gs : List Lv) (o : Od) : lvPart gs o 0 = gs := by simp [lvPart]
theorem lvPart_full (gs : List Lv) (o : Od) : lvPart gs o gs.length = gs.map (lvMinus o) := by simp [lvPart]
theorem lvPart_get (gs : List Lv) (o : Od) (k : Nat) (hk : k < gs.length) : (lvPart gs o k)[k]? = some gs[k] := by
  unfold lvPart
  have e : ((gs.take k).map (lvMinus o)).length = k := by rw [List.length_map, List.length_take]; omega
  rw [List.getElem?_append_right (by omega), e, Nat.sub_self, List.getElem?_drop]
  simp [hk]
theorem lvPart_next (gs : List Lv) (o : Od) (k : Nat) (hk : k < gs.length) : lvPart gs o (k + 1) = (lvPart gs o k).set k (lvMinus o gs[k]) := by
  unfold lvPart
  have e : ((gs.take k).map (lvMinus o)).length = k := by rw [List.length_map, List.length_take]; omega
  rw [List.set_append_right _ _ (by omega), e, Nat.sub_self, List.take_add_one, List.getElem?_eq_getElem hk, Option.toList_some, List.map_append, List.drop_eq_getElem_cons hk, List.append_assoc]
  rfl
theorem lvSubL_snoc (gs : List Lv) (dn : List Od) (o : Od) : (lvSubL gs dn).map (lvMinus o) = lvSubL gs (dn ++ [o]) := by
  unfold lvSubL
  rw [List.map_map]
  refine List.map_congr_left fun l _ => ?_
  show lvMinus o ⟨l.p, l.q - sumQ l.p dn, l.n - cntP l.p dn⟩ = _
  unfold lvMinus
  simp only [sumQ_app, cntP_app, sumQ, cntP]
  by_cases e : l.p = o.p
  · rw [if_pos e, if_pos e.symm, if_pos e.symm]
    congr 1 <;> omega
  · rw [if_neg e, if_neg (Ne.symm e), if_neg (Ne.symm e)]
    congr 1 <;> omega
theorem lvSubL_nil (gs : List Lv) : lvSubL gs [] = gs := by unfold lvSubL; simp [sumQ, cntP]
theorem lvSubL_len (gs : List Lv) (dn : List Od) : (lvSubL gs dn).length = gs.length := by simp [lvSubL]
theorem lvSubL_zero {s : Nat} {os dn : List Od} {gs : List Lv} (h : LvOk s os gs) (hp : dn.Perm os) : ∀ l ∈ lvSubL gs dn, l.q = 0 ∧ l.n = 0 := fun l hl => by
  obtain ⟨x, hx, rfl⟩ := List.mem_map.1 hl
  have := h.sq x hx
  simp only [sumQ_perm hp, cntP_perm hp]
  omega

theorem cntL_app (p : Int) : ∀ a b, cntL p (a ++ b) = cntL p a + cntL p b
  | [], b => by simp [cntL]
  | o :: r, b => by simp only [List.cons_append, cntL, cntL_app p r b]; omega
theorem cntL_next (p : Int) (gs : List Lv) (k : Nat) (hk : k < gs.length) : cntL p (gs.take (k + 1)) = cntL p (gs.take k) + if gs[k].p = p then 1 else 0 := by
  rw [List.take_add_one, List.getElem?_eq_getElem hk, Option.toList_some, cntL_app]
  simp [cntL]
theorem cntL_sub (p : Int) (gs : List Lv) (dn : List Od) : cntL p (lvSubL gs dn) = cntL p gs := by
  unfold lvSubL
  induction gs with
  | nil => rfl
  | cons l r ih => simp only [List.map_cons, cntL, ih]
theorem cntL_bd (p : Int) : ∀ gs : List Lv, 0 ≤ cntL p gs ∧ cntL p gs ≤ (gs.length : Int)
  | [] => by simp [cntL]
  | l :: r => by
    have := cntL_bd p r
    simp only [cntL, List.length_cons]
    split <;> omega
theorem cntL_zero {p : Int} : ∀ {gs : List Lv}, (∀ l ∈ gs, l.p ≠ p) → cntL p gs = 0
  | [], _ => rfl
  | l :: r, h => by
    have ih := cntL_zero fun y hy => h y (List.mem_cons_of_mem _ hy)
    have h1 := h l (List.mem_cons_self ..)
    simp only [cntL, if_neg h1, ih]
    rfl
theorem cntL_one {s : Nat} {p : Int} : ∀ {gs : List Lv}, (gs.Pairwise fun a b => Sr s a.p b.p) → (∃ l ∈ gs, l.p = p) → cntL p gs = 1
  | [], _, ⟨_, h, _⟩ => by cases h
  | l :: r, hp, ⟨x, hx, e⟩ => by
    obtain ⟨h1, h2⟩ := List.pairwise_cons.1 hp
    simp only [cntL]
    rcases List.mem_cons.1 hx with rfl | hx
    · rw [if_pos e, cntL_zero fun y hy => by have := sr_ne (h1 y hy); rw [← e]; exact Ne.symm this]
      rfl
    · have := sr_ne (h1 x hx)
      rw [if_neg (by rw [← e]; exact this), cntL_one h2 ⟨x, hx, e⟩]
      rfl

/-- levels, as they lie -/
structure LvAt (W : World) (lb : Nat) (gs : List Lv) (wr : World) : Prop where
  kp : Kep (fun b => b = lb) W wr
  row : ∀ i (hi : i < gs.length) j u, gs[i].cells[j]? = some u → Own wr ⟨lb, i * 3 + j, none⟩ u

theorem LvAt.later {W : World} {lb : Nat} {gs : List Lv} {wr wr' : World} (S : LvAt W lb gs wr) (k : Kep non wr wr') : LvAt W lb gs wr' := ⟨S.kp.trans k.none, fun i hi j u h => (S.row i hi j u h).kep k (fun q => q)⟩

theorem LvAt.put {W : World} {lb : Nat} {gs : List Lv} {wr : World} (S : LvAt W lb gs wr) {k : Nat} {z : Lv} (hz : gs[k]? = some z) (a b : Int) : LvAt W lb (gs.set k ⟨z.p, a, b⟩) ((wr.setCell ⟨lb, k * 3 + 1, none⟩ (.int .i64 a)).setCell ⟨lb, k * 3 + 2, none⟩ (.int .i64 b)) := by
  obtain ⟨hk, ez⟩ := List.getElem?_eq_some_iff.1 hz
  refine ⟨(S.kp.setCell (p := ⟨lb, k * 3 + 1, none⟩) (.inl rfl) _).setCell (p := ⟨lb, k * 3 + 2, none⟩) (.inl rfl) _, fun i hi j u hu => ?_⟩
  have hi' : i < gs.length := by simpa using hi
  have hj : j < 3 := by have := (List.getElem?_eq_some_iff.1 hu).1; simpa [Lv.cells] using this
  by_cases e : i = k
  · subst e
    simp only [List.getElem_set_self] at hu
    have o1 := S.row i hi' 1 _ (by rw [ez]; rfl)
    have o2 := S.row i hi' 2 _ (by rw [ez]; rfl)
    rcases j with _ | _ | _ | j
    · have := S.row i hi' 0 u (by rw [ez]; exact hu)
      exact (this.set_other (by intro q; injection q with _ q _; omega) rfl rfl _).set_other (by intro q; injection q with _ q _; omega) rfl rfl _
    · have e1 : (Value.int .i64 a) = u := by simpa [Lv.cells] using hu
      subst e1
      exact (o1.set rfl _).set_other (by intro q; injection q with _ q _; omega) rfl rfl _
    · have e1 : (Value.int .i64 b) = u := by simpa [Lv.cells] using hu
      subst e1
      exact (o2.set_other (by intro q; injection q with _ q _; omega) rfl rfl _).set rfl _
    · omega
  · rw [List.getElem_set_ne (by omega)] at hu
    exact ((S.row i hi' j u hu).set_other (by intro q; injection q with _ q _; omega) rfl rfl _).set_other (by intro q; injection q with _ q _; omega) rfl rfl _

theorem lvCells_at : ∀ (l : List Lv) (k j : Nat) (hk : k < l.length), j < 3 → (lvCells l)[k * 3 + j]? = l[k].cells[j]?
  | x :: r, 0, j, _, hj => by
    simp only [lvCells, List.flatMap_cons, Nat.zero_mul, Nat.zero_add, List.getElem_cons_zero]
    rw [List.getElem?_append_left (by simpa [Lv.cells] using hj)]
  | x :: r, k + 1, j, hk, hj => by
    have ih := lvCells_at r k j (by simpa using hk) hj
    simp only [lvCells, List.flatMap_cons, List.getElem_cons_succ] at ih ⊢
    rw [List.getElem?_append_right (by simp [Lv.cells]; omega)]
    rw [← ih]
    congr 1
    simp [Lv.cells]
    omega

theorem LvAt.of {W : World} {B : Nat} {gs : List Lv} {lb vc : Nat} (h : W.ownsRow B 69 3 (.slice (some ⟨lb, 0, none⟩) gs.length vc) gs.length (lvCells gs)) : LvAt W lb gs W := by
  refine ⟨Kep.refl _ _, fun i hi j u hu => ?_⟩
  have hj : j < 3 := by have := (List.getElem?_eq_some_iff.1 hu).1; simpa [Lv.cells] using this
  refine ⟨?_, h.frozenAt _⟩
  rw [h.cellAt _ (by omega), lvCells_at _ _ j hi hj]
  exact hu

end

section
open Go.RowKit Go.Sort

set_option maxRecDepth 1000000 in
set_option maxHeartbeats 16000000 in
theorem cnt_l3 {W : World} {lb ob nl oc vc i ng : Nat} {gs : List Lv} {o : Od} {c : Int} {va : Option Addr} (hng : gs.length = ng) (hlen : gs.length ≤ 60) (hbd : ∀ l ∈ gs, (-1000000 ≤ l.q ∧ l.q ≤ 1000000) ∧ (-1000 ≤ l.n ∧ l.n ≤ 1000)) (hq : 1 ≤ o.q ∧ o.q ≤ 10000) (hc : 0 ≤ c ∧ c ≤ 100) (hva : 0 < gs.length → va = some ⟨lb, 0, none⟩) (A0 : LvAt W lb gs W) (hi : i < nl)
    (y5 : W.cell? ⟨ob, i * 8 + 5, none⟩ = some (.int .i64 o.p)) (y6 : W.cell? ⟨ob, i * 8 + 6, none⟩ = some (.int .i64 o.q)) (hne : ob ≠ lb)
    (Q : Exit → Act → World → Prop) (u0 u1 u2 u3 u5 u6 u7 u8 u9 u10 u12 u14 u17 u18 u19 u20 u21 u22 u23 u24 u25 u26 u27 u28 u29 u30 u31 u32 u33 u34 u35 u36 u37 u38 u39 u40 u41 u42 u43 u44 u45 u46 u47 u48 u49 u50 u51 u52 u53 u54 u55 u56 u57 u58 u59 u60 u61 u62 u63 u64 u65 u66 u67 u68 u69 u70 u71 u72 u73 u74 u75 u76 u77 u78 u79 u80 u81 u82 u83 u84 u85 u86 u87 u88 u89 u90 u91 u92 u93 u94 u95 u96 u97 u98 u99 u100 u101 u102 u103 u104 u105 u106 u107 u108 u109 u110 u111 u112 u113 u114 u115 u116 u117 u118 u119 u120 u121 u122 u123 u124 u125 u126 u127 : Value)
    (hE : ∀ (n64 n65 n66 n67 n68 n69 n70 n71 n72 n73 n74 n75 n76 n77 n78 n79 n80 n81 n82 n83 n84 n85 n86 n87 n88 n89 n90 n91 n92 n93 n94 n95 n96 n97 n98 n99 n100 n101 n102 n103 n104 n105 : Value) (W' : World), LvAt W lb (gs.map (lvMinus o)) W' → Q (.exit 4) ⟨#[u0, u1, u2, u3, .slice va ng vc, u5, u6, u7, u8, u9, u10, .int .i64 (c - cntL o.p gs), u12, .slice (some ⟨ob, 0, none⟩) nl oc, u14, .int .i64 i, .int .i64 ng, u17, u18, u19, u20, u21, u22, u23, u24, u25, u26, u27, u28, u29, u30, u31, u32, u33, u34, u35, u36, u37, u38, u39, u40, u41, u42, u43, u44, u45, u46, u47, u48, u49, u50, u51, u52, u53, u54, u55, u56, u57, u58, u59, u60, u61, u62, u63, n64, n65, n66, n67, n68, n69, n70, n71, n72, n73, n74, n75, n76, n77, n78, n79, n80, n81, n82, n83, n84, n85, n86, n87, n88, n89, n90, n91, n92, n93, n94, n95, n96, n97, n98, n99, n100, n101, n102, n103, n104, n105, u106, u107, u108, u109, u110, u111, u112, u113, u114, u115, u116, u117, u118, u119, u120, u121, u122, u123, u124, u125, u126, u127], []⟩ W') :
    Code.wp Try.prog (Code.loop (loopAt Try.f24 2)) Q ⟨#[u0, u1, u2, u3, .slice va ng vc, u5, u6, u7, u8, u9, u10, .int .i64 c, u12, .slice (some ⟨ob, 0, none⟩) nl oc, u14, .int .i64 i, .int .i64 0, u17, u18, u19, u20, u21, u22, u23, u24, u25, u26, u27, u28, u29, u30, u31, u32, u33, u34, u35, u36, u37, u38, u39, u40, u41, u42, u43, u44, u45, u46, u47, u48, u49, u50, u51, u52, u53, u54, u55, u56, u57, u58, u59, u60, u61, u62, u63, u64, u65, u66, u67, u68, u69, u70, u71, u72, u73, u74, u75, u76, u77, u78, u79, u80, u81, u82, u83, u84, u85, u86, u87, u88, u89, u90, u91, u92, u93, u94, u95, u96, u97, u98, u99, u100, u101, u102, u103, u104, u105, u106, u107, u108, u109, u110, u111, u112, u113, u114, u115, u116, u117, u118, u119, u120, u121, u122, u123, u124, u125, u126, u127], []⟩ W := by
  have HE := hide hE
  have HA0 := hide A0
  have HBd := hide hbd
  have HVa := hide hva
  have HY5 := hide y5
  have HY6 := hide y6
  clear hE A0 hbd hva y5 y6
  subst hng
  conv => arg 2; arg 1; whnf
  dsimp only
  go_loopw [11, 16] (fun a j wr => ∃ k : Nat, k ≤ gs.length ∧ a = .int .i64 (c - cntL o.p (gs.take k)) ∧ j = .int .i64 k ∧ LvAt W lb (lvPart gs o k) wr) (fun _ j _ => gs.length - (intOf j).toNat)
  case atStart => exact ⟨0, Nat.zero_le _, by simp [cntL], rfl, by rw [lvPart_zero]; exact HA0.out⟩
  case round =>
    clear HA0
    obtain ⟨k, hk, rfl, rfl, A⟩ := hrel
    by_cases hlk : k < gs.length
    · have hz := lvPart_get gs o k hlk
      have HNx := hide (lvPart_next gs o k hlk)
      have HCn := hide (cntL_next o.p gs k hlk)
      obtain ⟨⟨b1, b2⟩, b3, b4⟩ := HBd.out gs[k] (List.getElem_mem hlk)
      have hcb := cntL_bd o.p (gs.take k)
      have hct : (gs.take k).length ≤ 60 := by rw [List.length_take]; omega
      obtain ⟨hk', ez⟩ := List.getElem?_eq_some_iff.1 hz
      have a0 := (A.row k hk' 0 (.int .i64 gs[k].p) (by rw [ez]; rfl)).cell
      have a1 := A.row k hk' 1 (.int .i64 gs[k].q) (by rw [ez]; rfl)
      have a2 := A.row k hk' 2 (.int .i64 gs[k].n) (by rw [ez]; rfl)
      simp only [Nat.add_zero] at a0
      have hva := HVa.out (by omega)
      subst hva
      have z5 := A.kp.cell HY5.out hne
      have z6 := A.kp.cell HY6.out hne
      have HP := hide (fun V (kV : Kep non wr V) => (A.later kV).put hz (gs[k].q - o.q) (gs[k].n - 1))
      have HA := hide A
      have hlk' : (k : Int) < (gs.length : Int) := by omega
      have hi' : (i : Int) < (nl : Int) := by omega
      have HMn := hide (show (gs[k].p = o.p → lvMinus o gs[k] = ⟨gs[k].p, gs[k].q - o.q, gs[k].n - 1⟩) ∧ (¬ gs[k].p = o.p → lvMinus o gs[k] = gs[k]) from ⟨fun e => by unfold lvMinus; rw [if_pos e], fun e => by unfold lvMinus; rw [if_neg e]⟩)
      have HSet := hide (show (lvPart gs o k).set k gs[k] = lvPart gs o k from by
        obtain ⟨h1, h2⟩ := List.getElem?_eq_some_iff.1 hz
        rw [← h2]; exact List.set_getElem_self h1)
      clear A hk' ez hz HVa HBd
      generalize gs[k] = z at *
      generalize hcc : cntL o.p (gs.take k) = cc at *
      have hcc' : 0 ≤ cc ∧ cc ≤ 60 := by omega
      go_wp2_with fail
      generalize hfb : (z.p == o.p) = fb at *
      go_cut [80] from 70 to 80 (fun v80 wx => v80 = .bool (z.p == o.p) ∧ Kep non wr wx)
      case first =>
        clear HE HP HA HNx HCn HMn HSet a1 a2 z6 hfb
        go_quiet (fail)
        go_wp2
        go_meet
        exact ⟨rfl, by (repeat (first | apply Kep.drewN | apply Kep.drew)); exact Kep.refl _ _⟩
      case rest =>
        obtain ⟨rfl, kc⟩ := hcut
        by_cases e : z.p = o.p
        · have hN := HNx.out
          rw [HMn.out.1 e] at hN
          have hC := HCn.out
          rw [if_pos e] at hC
          have e' : (z.p == o.p) = true := beq_iff_eq.2 e
          rw [e'] at *
          obtain ⟨V, hV, kV⟩ : ∃ V, V = wc.drew ∧ Kep non wc V := ⟨_, rfl, (Kep.refl _ _).drew⟩
          have kwV := kc.trans kV
          obtain ⟨c1, f1⟩ := a1.kep kwV (fun f => f)
          obtain ⟨c2, f2⟩ := a2.kep kwV (fun f => f)
          have c5 := kwV.cell z5 (fun f => f)
          have c6 := kwV.cell z6 (fun f => f)
          have HF := hide (HP.out V kwV)
          rw [← hN] at HF
          have HV := hide hV
          have HC := hide hC
          clear hV kV kwV hN hC HP HNx HCn HMn HSet HA a0 a1 a2 z5 z6 kc e e' hfb
          go_wp2_with fail
          refine region_tail 15 (by kernel_rfl) (by kernel_rfl) V HV.out ?_
          simp only [List.take_succ_cons, List.take_zero, List.drop_succ_cons, List.drop_zero]
          repeat still_step
          refine wpStill_nil ?_
          go_wp2
          exact ⟨⟨k + 1, by omega, by rw [HC.out]; congr 1; omega, by go_num, HF.out⟩, by simp [intOf]; omega⟩
        · have hN := HNx.out
          rw [HMn.out.2 e, HSet.out] at hN
          have hC := HCn.out
          rw [if_neg e, Int.add_zero] at hC
          have e' : (z.p == o.p) = false := beq_eq_false_iff_ne.2 e
          rw [e'] at *
          have HF := hide (HA.out.later kc)
          rw [← hN] at HF
          have HC := hide hC
          clear hN hC HP HNx HCn HMn HSet HA a0 a1 a2 z5 z6 kc e e' hfb
          go_wp2
          exact ⟨⟨k + 1, by omega, by rw [HC.out], by go_num, HF.out⟩, by simp [intOf]; omega⟩
    · have hkl : k = gs.length := by omega
      have hlk' : ¬ (k : Int) < (gs.length : Int) := by omega
      have HA := hide A
      rw [hkl] at hlk' HA
      rw [lvPart_full] at HA
      rw [hkl, List.take_length]
      clear A hlk hk hkl
      go_wp2
      exact HE.out _ _ _ _ _ _ _ _ _ _ _ _ _ _ _ _ _ _ _ _ _ _ _ _ _ _ _ _ _ _ _ _ _ _ _ _ _ _ _ _ _ _ wr HA.out

end

end Go.Proofs.Ytcfoobhihhndjaa
