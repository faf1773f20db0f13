/- Best: what is there; Place. -/
import Derived.Test.YtcfoobhihhndjaaBc
namespace Go.Proofs.Ytcfoobhihhndjaa

section
open Go.RowKit Go.Sort

/-- collected so far: of the traders below t -/
def collT (x : Od) (l : List Od) (t : Nat) : List Od := l.filter fun o => decide (o.t < (t : Int)) && decide (o.t ≠ x.t) && cand x o

theorem filter_split {α : Type} (p q : α → Bool) : ∀ l : List α, (l.filter (fun a => p a || q a)).Perm (l.filter (fun a => p a) ++ l.filter (fun a => !p a && q a))
  | [] => List.Perm.nil
  | a :: l => by
    have ih := filter_split p q l
    by_cases hp : p a = true
    · rw [List.filter_cons_of_pos (by simp [hp]), List.filter_cons_of_pos hp, List.filter_cons_of_neg (by simp [hp])]
      exact ih.cons a
    · by_cases hq : q a = true
      · rw [List.filter_cons_of_pos (by simp [hq]), List.filter_cons_of_neg hp, List.filter_cons_of_pos (by simp [hp, hq])]
        exact (ih.cons a).trans List.perm_middle.symm
      · rw [List.filter_cons_of_neg (by simp [hp, hq]), List.filter_cons_of_neg hp, List.filter_cons_of_neg (by simp [hq])]
        exact ih

/-- one more trader -/
theorem collT_next {m : Mt} {x : Od} {t : Nat} {l TH : List Od} (T : Told m t l) (hT : TH.Perm (collT x m.all t)) : (TH ++ if x.t = t then [] else l.filter (cand x)).Perm (collT x m.all (t + 1)) := by
  have h1 := filter_split (fun o : Od => decide (o.t < (t : Int)) && decide (o.t ≠ x.t) && cand x o) (fun o => decide (o.t = (t : Int)) && decide (o.t ≠ x.t) && cand x o) m.all
  have e1 : (m.all.filter fun o : Od => (decide (o.t < (t : Int)) && decide (o.t ≠ x.t) && cand x o) || (decide (o.t = (t : Int)) && decide (o.t ≠ x.t) && cand x o)) = collT x m.all (t + 1) := by
    unfold collT
    congr 1
    funext o
    have : decide (o.t < ((t + 1 : Nat) : Int)) = (decide (o.t < (t : Int)) || decide (o.t = (t : Int))) := by
      rw [← Bool.decide_or]
      congr 1
      simp only [eq_iff_iff]
      omega
    rw [this]
    cases decide (o.t < (t : Int)) <;> cases decide (o.t = (t : Int)) <;> simp
  rw [e1] at h1
  refine List.Perm.trans ?_ h1.symm
  refine hT.append ?_
  by_cases e : x.t = t
  · rw [if_pos e]
    have : (m.all.filter fun o : Od => !(decide (o.t < (t : Int)) && decide (o.t ≠ x.t) && cand x o) && (decide (o.t = (t : Int)) && decide (o.t ≠ x.t) && cand x o)) = [] := List.filter_eq_nil_iff.2 fun o _ => by
      rw [e]
      by_cases h : o.t = (t : Int) <;> simp [h]
    rw [this]
  · rw [if_neg e]
    have h2 : (l.filter (cand x)).Perm ((ofT t m.all).filter (cand x)) := T.pm.filter _
    refine h2.trans ?_
    unfold ofT
    rw [List.filter_filter]
    refine List.Perm.of_eq ?_
    refine List.filter_congr fun o _ => ?_
    by_cases h : o.t = (t : Int)
    · simp [h]
      intro _
      omega
    · simp [h]

/-- only one queue has some that count -/
theorem upG_only {α : Type} (P : α → Bool) (f : Nat → Nat → List α) {g s G0 : Nat} (hs : s < 2) (h0 : ∀ b c, b < G0 → c < 2 → ¬ (b = g ∧ c = s) → (f b c).filter P = []) : ∀ G, G ≤ G0 → g < G → (upG f G).filter P = (f g s).filter P
  | 0, _, h => by omega
  | G + 1, hG, h => by
    simp only [upG, two, List.filter_append]
    by_cases e : G = g
    · subst e
      have h1 : (upG f G).filter P = [] := List.filter_eq_nil_iff.2 fun a ha hp => by
        obtain ⟨b, c, hb, hc, hm⟩ := mem_upG.1 ha
        exact List.filter_eq_nil_iff.1 (h0 b c (by omega) hc (by omega)) a hm hp
      rw [h1]
      rcases s with _ | _ | s
      · rw [h0 G 1 (by omega) (by omega) (by omega)]; simp
      · rw [h0 G 0 (by omega) (by omega) (by omega)]; simp
      · omega
    · rw [upG_only P f hs h0 G (by omega) (by omega), h0 G 0 (by omega) (by omega) (by omega), h0 G 1 (by omega) (by omega) (by omega)]
      simp
theorem upH_only {α : Type} (P : α → Bool) (G : Nat) (f : Nat → Nat → Nat → List α) {h g s H0 : Nat} (hg : g < G) (hs : s < 2) (h0 : ∀ a b c, a < H0 → b < G → c < 2 → ¬ (a = h ∧ b = g ∧ c = s) → (f a b c).filter P = []) : ∀ H, H ≤ H0 → h < H → (upH G f H).filter P = (f h g s).filter P
  | 0, _, hh => by omega
  | H + 1, hH, hh => by
    simp only [upH, List.filter_append]
    by_cases e : H = h
    · subst e
      have h1 : (upH G f H).filter P = [] := List.filter_eq_nil_iff.2 fun a ha hp => by
        obtain ⟨x, b, c, hx, hb, hc, hm⟩ := mem_upH.1 ha
        exact List.filter_eq_nil_iff.1 (h0 x b c (by omega) hb hc (by omega)) a hm hp
      rw [h1, upG_only P (f H) (G0 := G) hs (fun b c hb hc q => h0 H b c (by omega) hb hc (by omega)) G (Nat.le_refl _) hg]
      simp
    · rw [upH_only P G f hg hs h0 H (by omega) (by omega)]
      have h1 : (upG (f H) G).filter P = [] := List.filter_eq_nil_iff.2 fun a ha hp => by
        obtain ⟨b, c, hb, hc, hm⟩ := mem_upG.1 ha
        exact List.filter_eq_nil_iff.1 (h0 H b c (by omega) hb hc (by omega)) a hm hp
      rw [h1]
      simp

/-- all that was collected: what it may trade with -/
theorem coll_theirs {m : Mt} {N : Int} (I : m.Inv N) (hT : m.T = 4) {x : Od} {h g s : Nat} (q : at3 m h g s) (eh : x.h = h) (eg : x.g = g) (es : x.s = s) : collT x m.all 4 = theirs x (m.bk h g (otherS s)) := by
  have hs' : otherS s < 2 := by unfold otherS; split <;> omega
  unfold collT
  show (upH m.G m.bk m.H).filter _ = _
  have hs2 := q.2.2
  have out : ∀ a b c, a < m.H → b < m.G → c < 2 → ¬ (a = h ∧ b = g ∧ c = otherS s) → ∀ o ∈ m.bk a b c, cand x o = false := fun a b c ha hb hc e o ho => by
    have k := I.od a b c o ha hb hc ho
    by_cases e1 : a = h ∧ b = g
    · obtain ⟨rfl, rfl⟩ := e1
      have : c = s := by
        have : c ≠ otherS s := fun f => e ⟨rfl, rfl, f⟩
        unfold otherS at this
        split at this <;> omega
      subst this
      unfold cand
      rw [k.s, es]
      simp
    · unfold cand
      rw [k.h, k.g, eh, eg]
      have : ¬ ((a : Int) = h ∧ (b : Int) = g) := by omega
      simp
      omega
  rw [upH_only (h := h) (g := g) (s := otherS s) (H0 := m.H) _ m.G m.bk q.2.1 hs' (fun a b c ha hb hc e => List.filter_eq_nil_iff.2 fun o ho hp => by
    rw [out a b c ha hb hc e o ho] at hp
    simp at hp) m.H (Nat.le_refl _) q.1]
  unfold theirs
  refine List.filter_congr fun o ho => ?_
  have k := I.od h g (otherS s) o q.1 q.2.1 hs' ho
  have k1 : o.t < ((4 : Nat) : Int) := by have := k.t; omega
  have k2 : ¬ ((otherS s : Int) = s) := by unfold otherS; split <;> omega
  unfold cand
  rw [k.h, k.g, k.s, eh, eg, es]
  have k3 : decide (o.t < ((4 : Nat) : Int)) = true := decide_eq_true k1
  rw [k3]
  simp [k2]

def qtyL : List Td → Int
  | [] => 0
  | t :: r => t.q + qtyL r
theorem qtyL_app : ∀ a b, qtyL (a ++ b) = qtyL a + qtyL b
  | [], b => by simp [qtyL]
  | o :: r, b => by simp only [List.cons_append, qtyL, qtyL_app r b]; omega

/-- an order's trades, i of them told; TH: those that were there, with what is left of each -/
def BSim (fee : Int → Int) (s : Nat) (x : Od) (id : Int) (ts : List Td) (i : Nat) (TH : List Od) (left fees ho : Int) : Prop :=
  ∃ l, l.Pairwise (Ahd (otherS s)) ∧ matchT fee l { x with id := id, q := left } = ts.drop i ∧ (some0 TH).Perm (theirs x l) ∧ fees = ho + feesL (ts.take i) ∧ left = x.q - qtyL (ts.take i)

theorem BSim.step {fee : Int → Int} {s : Nat} (s2 : s < 2) {x : Od} (es : x.s = s) {id : Int} {ts : List Td} {i : Nat} {TH : List Od} {left fees ho : Int} (S : BSim fee s x id ts i TH left fees ho) (hi : i < ts.length) {r : Int} (B : BestOf (otherS s) TH r) :
    ∃ (k : Nat) (z : Od), r = k ∧ TH[k]? = some z ∧ z.q ≠ 0 ∧ 0 < left ∧ ts[i] = tdOf fee { x with id := id, q := left } z (min left z.q) ∧ BSim fee s x id ts (i + 1) (TH.set k { z with q := z.q - min left z.q }) (left - min left z.q) (fees + ts[i].f) ho := by
  obtain ⟨l, hl, hm, hp, hf, hq⟩ := S
  have hd : ts.drop i = ts[i] :: ts.drop (i + 1) := List.drop_eq_getElem_cons hi
  rw [hd] at hm
  obtain ⟨z, T, l', t1, t2, t3, t4, t5, t6⟩ := matchT_step s2 l { x with id := id, q := left } ts[i] (ts.drop (i + 1)) es hl hm
  have t1' : theirs x l = z :: T := t1
  have t6' : theirs x l' = if z.q - min left z.q = 0 then T else { z with q := z.q - min left z.q } :: T := t6
  rw [t1'] at hp
  have hs : (z :: T).Pairwise (Ahd (otherS s)) := by rw [← t1']; exact hl.sublist List.filter_sublist
  have hz : z ∈ some0 TH := hp.symm.subset (List.mem_cons_self ..)
  obtain ⟨hz1, hz2⟩ := List.mem_filter.1 hz
  have hzq : z.q ≠ 0 := by simpa using hz2
  rcases B with ⟨_, h⟩ | ⟨k, e, B⟩
  · exact absurd (h z hz1) hzq
  · have hk := B.head hp hs
    refine ⟨k, z, e, hk, hzq, t3, t2, l', t4, t5, ?_, ?_, ?_⟩
    · rw [t6']
      exact some0_set hk hp hzq _
    · rw [List.take_add_one, feesL_app, List.getElem?_eq_getElem hi, hf]
      simp [feesL]
      omega
    · have e2 : ts[i].q = min left z.q := by rw [t2]; rfl
      rw [List.take_add_one, qtyL_app, List.getElem?_eq_getElem hi]
      simp only [Option.toList_some, qtyL, e2]
      omega

theorem BSim.over {fee : Int → Int} {s : Nat} (s2 : s < 2) {x : Od} (es : x.s = s) {id : Int} {ts : List Td} {TH : List Od} {left fees ho : Int} (S : BSim fee s x id ts ts.length TH left fees ho) (hp : 0 < left) {r : Int} (B : BestOf (otherS s) TH r) : r = -1 := by
  obtain ⟨l, hl, hm, hq, _, _⟩ := S
  rw [List.drop_length] at hm
  have h1 : theirs x l = [] := matchT_nil s2 l { x with id := id, q := left } es hl hm hp
  rw [h1] at hq
  have h2 : some0 TH = [] := hq.eq_nil
  rcases B with ⟨e, _⟩ | ⟨k, _, z, h3, h4, _⟩
  · exact e
  · have : z ∈ some0 TH := List.mem_filter.2 ⟨List.mem_of_getElem? h3, by simpa using h4⟩
    rw [h2] at this
    cases this

/-- what is left of an order: what was not traded -/
theorem matchL_qty (fee : Int → Int) : ∀ (l : List Od) (o : Od), (matchL l o).2 = o.q - qtyL (matchT fee l o)
  | [], o => by simp [matchL, matchT, qtyL]
  | z :: r, o => by
    unfold matchL matchT
    by_cases h1 : o.q ≤ 0
    · rw [if_pos h1, if_pos h1]; simp [qtyL]
    · rw [if_neg h1, if_neg h1]
      by_cases h2 : pfits o z = false
      · rw [if_pos h2, if_pos h2]; simp [qtyL]
      · rw [if_neg h2, if_neg h2]
        by_cases h3 : z.t = o.t
        · rw [if_pos h3, if_pos h3]; exact matchL_qty fee r o
        · rw [if_neg h3, if_neg h3]
          by_cases h4 : z.q - min o.q z.q = 0
          · rw [if_pos h4, if_pos h4, matchL_qty fee r { o with q := o.q - min o.q z.q }]
            simp only [qtyL, tdOf]
            omega
          · rw [if_neg h4, if_neg h4]
            simp [qtyL, tdOf]

/-- the beginning: an order that is taken, and those that it may trade with -/
theorem bsim_start {m : Mt} {N : Int} (I : m.Inv N) (J : m.Jn) {x : Od} (hE : placeE m x = 0) {h g s : Nat} (q : at3 m h g s) (eh : x.h = h) (eg : x.g = g) (es : x.s = s) {TH : List Od} (hT : TH.Perm (theirs x (m.bk h g (otherS s)))) :
    BSim (m.fee h) s x (m.nu + 1) (placeT m x) 0 TH x.q m.ho m.ho := by
  have hs' : otherS s < 2 := by unfold otherS; split <;> omega
  refine ⟨m.bk h g (otherS s), J.srt ⟨q.1, q.2.1, hs'⟩, ?_, ?_, by simp [feesL], by simp [qtyL]⟩
  · rw [List.drop_zero]
    unfold placeT placed
    rw [if_pos hE, show x.h.toNat = h by omega, show x.g.toNat = g by omega, show x.s.toNat = s by omega, (matchM_t _ _ _ _ _ _).1]
    rw [fee_rt (m := m) (show (holdM { m with nu := m.nu + 1 } { x with id := m.nu + 1 }).rt = m.rt by unfold holdM; split <;> rfl)]
  · have : some0 TH = TH := List.filter_eq_self.2 fun o ho => by
      have h1 := hT.subset ho
      have h2 := (I.od h g (otherS s) o q.1 q.2.1 hs' (List.mem_filter.1 h1).1).q
      simp
      omega
    rw [this]
    exact hT

end

section
open Go.RowKit Go.Sort

structure ThAt (W : World) (TB : Nat) (TH : List Od) (wr : World) : Prop where
  kp : Kep (fun b => b = TB) W wr
  row : ∀ i (hi : i < TH.length) j u, TH[i].cells[j]? = some u → Own wr ⟨TB, i * 8 + j, none⟩ u

theorem ThAt.later {W : World} {TB : Nat} {TH : List Od} {wr wr' : World} (S : ThAt W TB TH wr) (k : Kep non wr wr') : ThAt W TB TH wr' := ⟨S.kp.trans k.none, fun i hi j u h => (S.row i hi j u h).kep k (fun q => q)⟩

theorem ThAt.put {W : World} {TB : Nat} {TH : List Od} {wr : World} (S : ThAt W TB TH wr) {k : Nat} {z : Od} (hz : TH[k]? = some z) (n : Int) : ThAt W TB (TH.set k { z with q := n }) (wr.setCell ⟨TB, k * 8 + 6, none⟩ (.int .i64 n)) := by
  obtain ⟨hk, ez⟩ := List.getElem?_eq_some_iff.1 hz
  refine ⟨S.kp.setCell (p := ⟨TB, k * 8 + 6, none⟩) (.inl rfl) _, fun i hi j u hu => ?_⟩
  have hi' : i < TH.length := by simpa using hi
  have hj : j < 8 := by have := (List.getElem?_eq_some_iff.1 hu).1; simpa [Od.cells] using this
  by_cases e : i = k
  · subst e
    simp only [List.getElem_set_self] at hu
    by_cases e6 : j = 6
    · subst e6
      have e : (Value.int .i64 n) = u := by simpa [Od.cells] using hu
      subst e
      exact (S.row i hi' 6 _ (by rw [ez]; rfl)).set rfl _
    · have hu' : TH[i].cells[j]? = some u := by
        rw [ez]
        rcases j with _ | _ | _ | _ | _ | _ | _ | _ | j
        · exact hu
        · exact hu
        · exact hu
        · exact hu
        · exact hu
        · exact hu
        · omega
        · exact hu
        · omega
      exact (S.row i hi' j u hu').set_other (by intro q; injection q with _ q _; omega) rfl rfl _
  · rw [List.getElem_set_ne (by omega)] at hu
    exact (S.row i hi' j u hu).set_other (by intro q; injection q with _ q _; omega) rfl rfl _

theorem ThAt.of {W0 W : World} {B : Nat} {TH : List Od} {TB vc : Nat} (h : W.ownsRow B 42 8 (.slice (some ⟨TB, 0, none⟩) TH.length vc) TH.length (odCells TH)) (k : Kep (fun b => b = TB) W0 W) : ThAt W0 TB TH W := by
  refine ⟨k, fun i hi j u hu => ?_⟩
  have hj : j < 8 := by have := (List.getElem?_eq_some_iff.1 hu).1; simpa [Od.cells] using this
  refine ⟨?_, ?_⟩
  · rw [h.cellAt _ (by omega), odCells_at _ _ j hi hj]
    simpa using hu
  · rcases h.2 with ⟨e, _⟩ | ⟨g, cap, cur, e, _, hb, _⟩
    · cases e
    · injection e with e _ _
      injection e with e
      injection e with e _ _
      subst e
      exact frozen_of_row _ _ _ _ _ hb

theorem keys_set {TH : List Od} {k : Nat} {z : Od} (hz : TH[k]? = some z) (n : Int) : (TH.set k { z with q := n }).map Od.key = TH.map Od.key := by
  obtain ⟨hk, ez⟩ := List.getElem?_eq_some_iff.1 hz
  rw [List.map_set, key_q, ← ez, ← List.getElem_map Od.key (h := by simpa using hk), List.set_getElem_self]

theorem keys_ids {TH TH' : List Od} (e : TH'.map Od.key = TH.map Od.key) (h : TH.Pairwise fun a b => a.id ≠ b.id) : TH'.Pairwise fun a b => a.id ≠ b.id := by
  have h1 : (TH.map Od.key).Pairwise fun a b => a.id ≠ b.id := List.pairwise_map.2 h
  rw [← e] at h1
  exact (List.pairwise_map (f := Od.key) (R := fun a b => a.id ≠ b.id)).1 h1
theorem keys_sides {TH TH' : List Od} {s : Int} (e : TH'.map Od.key = TH.map Od.key) (h : ∀ o ∈ TH, o.s = s) : ∀ o ∈ TH', o.s = s := fun o ho => by
  have h1 : o.key ∈ TH'.map Od.key := List.mem_map.2 ⟨o, ho, rfl⟩
  rw [e] at h1
  obtain ⟨y, hy, e1⟩ := List.mem_map.1 h1
  have h2 := h y hy
  have h3 : y.key.s = o.key.s := by rw [e1]
  exact h3.symm.trans h2

end

section
open Go.RowKit Go.Sort

theorem DRep.other {w : World} {d : Nat} {rs : List Int} {mon p0 p1 : Int} {L : PL} {rv : Value} {pb : Nat} {m : Mt} {W W2 : World} {TB : Nat} (D : DRep w d rs mon p0 p1 L rv pb m W) (k : Kep (fun b => b = TB) W W2) (h1 : ¬ L.S m TB) (h2 : L.rb ≠ TB ∧ L.bb ≠ TB) (h3 : d ≠ TB ∧ pb ≠ TB) (h4 : ∀ rb n cap, rv = .slice (some ⟨rb, 0, none⟩) n cap → rb ≠ TB) (hw : w.heap.size ≤ TB) : DRep w d rs mon p0 p1 L rv pb m W2 := by
  obtain ⟨rb, cap, e, r1, r2, r3, r4, r5⟩ := D.rr
  exact ⟨D.kp.trans' k (fun i hi => .inr (by rw [hi]; exact hw)), D.R.keep k (fun b hb e => h1 (e ▸ hb)) h2.1 h2.2, D.c0.kep k h3.1, D.c3.kep k h3.1, D.c4.kep k h3.1, D.c5.kep k h3.1, D.q0.kep k h3.2, D.q1.kep k h3.2, ⟨rb, cap, e, Nat.lt_of_lt_of_le r1 k.size, r2, r3, r4, fun i y hy => k.cell (r5 i y hy) (h4 rb _ cap e)⟩, D.nd, D.np, D.dp, D.dr, D.fS, D.fd⟩

/-- Place: its answers, the row of its trades, the desk behind it; what was laid since W1 stands as it did, and may turn -/
def PlPost (w : World) (rs : List Int) (x : Nat) (m : Mt) (o : Od) (W1 W : World) (e : Ending) (w' : World) : Prop :=
  ∃ (v : Value) (S : Nat → Prop), e = .returned (.tuple #[.int .i64 (placeI m o), v, .int .i64 (placeE m o)]) ∧ DeskB w rs x (placeM m o) w' ∧ (∀ TB W2, W1.heap.size ≤ TB → TB < W.heap.size → Kep (fun b => b = TB) w' W2 → DeskB w rs x (placeM m o) W2) ∧
    (∃ rb cap, w'.cell? ⟨w.heap.size, 3, none⟩ = some (.slice (some ⟨rb, 0, none⟩) rs.length cap) ∧ rb < W1.heap.size ∧ ∀ i y, rs[i]? = some y → w'.cell? ⟨rb, i, none⟩ = some (.int .i64 y)) ∧
    w'.ownsRow W.heap.size 53 6 v (placeT m o).length (tdCells (placeT m o)) ∧ Kep S W w' ∧ ∀ b, S b → b < W1.heap.size

theorem DeskB.place {w : World} {rs : List Int} {x : Nat} {m : Mt} {W1 W : World} {N : Int} (D : DeskB w rs x m W1) (k : Kep non W1 W) (I : m.Inv N) (hn : m.nu + 1 ≤ N) (o : Od) :
    Calls Try.prog 19 #[.pointer (some ⟨x, 0, none⟩), o.agg] W (PlPost w rs x m o W1 W) := by
  have S := place_sums I hn o
  obtain ⟨L, rv, pb, rfl, D⟩ := D
  have Dk := D.later k
  have lS := fun b f => D.R.lt I.T1 I.G1 b f
  have lr : L.rb < W1.heap.size := World.block_lt_of_cell? W1 _ (D.R.rt 0 I.H1)
  have lb : L.bb < W1.heap.size := World.block_lt_of_cell? W1 _ (D.R.bks 0 I.H1)
  obtain ⟨ld, lp⟩ := D.lt
  obtain ⟨rb, cap, er, r1, r2, r3, r4, r5⟩ := D.rr
  obtain ⟨rb', cap', er', s1, s2, s3, s4, s5⟩ := Dk.rr
  have e0 : rb' = rb ∧ cap' = cap := by
    rw [er] at er'
    injection er' with e1 e2 e3
    injection e1 with e1
    injection e1 with e1 _ _
    exact ⟨e1.symm, e3.symm⟩
  obtain ⟨rfl, rfl⟩ := e0
  have wd := D.kp.size
  refine (place_any W L m N Dk.R I hn o).mono fun e w' ⟨v, h1, h2⟩ => ?_
  obtain ⟨L', ex, sub, R', nv⟩ := h2.rep
  have Dn := Dk.turn h2.kp ex sub R'
  have eD : ∀ W2, DRep w w.heap.size rs m.money (m.stock 0) (m.stock 1) L' rv pb (placeM m o) W2 → DeskB w rs L.x (placeM m o) W2 := fun W2 D2 => by
    unfold DeskB
    rw [S.1, S.2, S.2]
    exact ⟨L', rv, pb, ex.1, D2⟩
  refine ⟨v, L.S m, h1, eD _ Dn, fun TB W2 t1 t2 k2 => eD _ (Dn.other k2 (fun f => ?_) ⟨?_, ?_⟩ ⟨?_, ?_⟩ (fun rb2 n2 c2 e2 => ?_) (by omega)), ⟨rb', cap', ?_, r1, fun i y hy => h2.kp.cell (s5 i y hy) s4⟩, h2.tr, h2.kp, lS⟩
  · rcases sub _ f with f | f
    · have := lS _ f; omega
    · omega
  · rw [ex.2.1]; omega
  · rw [ex.2.2]; omega
  · omega
  · omega
  · rw [er] at e2
    injection e2 with e1 _ _
    injection e1 with e1
    injection e1 with e1 _ _
    omega
  · rw [← er]; exact Dn.c3.cell

/-- the house behind Place -/
theorem place_ho (m : Mt) (o : Od) : (placeM m o).ho = m.ho + feesL (placeT m o) := by
  unfold placeM placeT
  by_cases hE : placeE m o = 0
  · rw [if_pos hE, if_pos hE]
    have e1 : (settleM (placed m o).1 (placed m o).2.1).ho = (placed m o).1.ho := by
      unfold settleM
      split
      · rfl
      · exact release_ho _ _ _ _ _ _
    have e2 : (holdM { m with nu := m.nu + 1 } { o with id := m.nu + 1 }).ho = m.ho := by unfold holdM; split <;> rfl
    rw [e1]
    unfold placed
    obtain ⟨t1, t2⟩ := matchM_t o.h.toNat o.g.toNat (otherS o.s.toNat) (m.bk o.h.toNat o.g.toNat (otherS o.s.toNat)) (holdM { m with nu := m.nu + 1 } { o with id := m.nu + 1 }) { o with id := m.nu + 1 }
    rw [t1, t2, e2]
  · rw [if_neg hE, if_neg hE]
    simp [feesL]

end

end Go.Proofs.Ytcfoobhihhndjaa
