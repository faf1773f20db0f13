/- Best: what waits behind Place. -/
import Derived.Test.YtcfoobhihhndjaaBb
namespace Go.Proofs.Ytcfoobhihhndjaa

section
open Go.RowKit Go.Sort

theorem matchT_none (fee : Int → Int) : ∀ (l : List Od) (o : Od), (∀ z ∈ l, ¬ (z.t ≠ o.t ∧ pfits o z = true)) → matchT fee l o = []
  | [], _, _ => rfl
  | z :: r, o, h => by
    unfold matchT
    by_cases h1 : o.q ≤ 0
    · rw [if_pos h1]
    · rw [if_neg h1]
      by_cases h2 : pfits o z = false
      · rw [if_pos h2]
      · rw [if_neg h2]
        by_cases h3 : z.t = o.t
        · rw [if_pos h3]
          exact matchT_none fee r o fun y hy => h y (List.mem_cons_of_mem _ hy)
        · exact absurd ⟨h3, by simpa using h2⟩ (h z (List.mem_cons_self ..))

theorem metL_none {o : Od} : ∀ l : List Od, (∀ z ∈ l, 1 ≤ z.q) → metL o l ≤ 0 → ∀ z ∈ l, ¬ (z.t ≠ o.t ∧ pfits o z = true)
  | [], _, _ => fun z hz => by cases hz
  | y :: r, hq, hm => fun z hz => by
    have nn : ∀ l : List Od, (∀ z ∈ l, 1 ≤ z.q) → 0 ≤ metL o l := fun l => by
      induction l with
      | nil => intro _; simp [metL]
      | cons a t ih =>
        intro h
        have h1 := ih fun z hz => h z (List.mem_cons_of_mem _ hz)
        have h2 := h a (List.mem_cons_self ..)
        simp only [metL]
        split <;> omega
    have h1 := nn r fun z hz => hq z (List.mem_cons_of_mem _ hz)
    have h2 := hq y (List.mem_cons_self ..)
    simp only [metL] at hm
    have h3 : ¬ (y.t ≠ o.t ∧ pfits o y = true) := fun f => by rw [if_pos f] at hm; omega
    rw [if_neg h3] at hm
    rcases List.mem_cons.1 hz with rfl | hz
    · exact h3
    · exact metL_none r (fun z hz => hq z (List.mem_cons_of_mem _ hz)) (by omega) z hz

theorem metL_q (o : Od) (n : Int) : ∀ l : List Od, metL { o with q := n } l = metL o l
  | [] => rfl
  | z :: r => by simp only [metL, metL_q o n r]; rfl

/-- enough is there: nothing is left -/
theorem matchL_full {s : Nat} (s2 : s < 2) : ∀ (l : List Od) (o : Od), o.s = s → l.Pairwise (Ahd (otherS s)) → (∀ z ∈ l, 1 ≤ z.q) → 0 ≤ o.q → o.q ≤ metL o l → (matchL l o).2 = 0
  | [], o, _, _, _, h0, hm => by simp only [metL] at hm; simp only [matchL]; omega
  | z :: r, o, es, hs, hq, h0, hm => by
    unfold matchL
    by_cases h1 : o.q ≤ 0
    · rw [if_pos h1]; simp only []; omega
    · rw [if_neg h1]
      by_cases h2 : pfits o z = false
      · exfalso
        have h3 := theirs_none s2 es hs rfl h2
        have h4 : metL o (z :: r) = 0 := by
          have h5 : ∀ y ∈ z :: r, ¬ (y.t ≠ o.t ∧ pfits o y = true) := fun y hy f => by
            have : y ∈ theirs o (z :: r) := List.mem_filter.2 ⟨hy, by simp [f.1, f.2]⟩
            rw [h3] at this
            cases this
          have gen : ∀ l : List Od, (∀ y ∈ l, ¬ (y.t ≠ o.t ∧ pfits o y = true)) → metL o l = 0 := fun l => by
            induction l with
            | nil => intro _; rfl
            | cons a t ih => intro h; simp only [metL, if_neg (h a (List.mem_cons_self ..)), ih fun y hy => h y (List.mem_cons_of_mem _ hy)]; omega
          exact gen _ h5
        omega
      · rw [if_neg h2]
        have h2' : pfits o z = true := by simpa using h2
        have hs' := (List.pairwise_cons.1 hs).2
        have hq' : ∀ y ∈ r, 1 ≤ y.q := fun y hy => hq y (List.mem_cons_of_mem _ hy)
        by_cases h3 : z.t = o.t
        · rw [if_pos h3]
          refine matchL_full s2 r o es hs' hq' h0 ?_
          simp only [metL, h3, ne_eq, not_true_eq_false, false_and, if_false] at hm
          omega
        · rw [if_neg h3]
          simp only [metL] at hm
          rw [if_pos ⟨h3, h2'⟩] at hm
          by_cases h4 : z.q - min o.q z.q = 0
          · rw [if_pos h4]
            refine matchL_full s2 r { o with q := o.q - min o.q z.q } es hs' hq' ?_ ?_
            · show 0 ≤ o.q - min o.q z.q; omega
            · rw [metL_q]
              show o.q - min o.q z.q ≤ metL o r
              omega
          · rw [if_neg h4]
            simp only []
            omega

end

section
open Go.RowKit Go.Sort

/-- behind Place: the new order's number belongs to what is left of it, if it waits; else to none -/
theorem place_waits {m : Mt} {N : Int} (I : m.Inv N) {x : Od} (hE : placeE m x = 0) {h g s : Nat} (q : at3 m h g s) (eh : x.h = h) (eg : x.g = g) (es : x.s = s) :
    (0 < x.q - qtyL (placeT m x) ∧ (x.w = 0 ∨ x.w = 3) → (∃ o ∈ (placeM m x).all, o.t = x.t ∧ o.id = m.nu + 1) ∧ ∀ o ∈ (placeM m x).all, o.id = m.nu + 1 → o.q = x.q - qtyL (placeT m x)) ∧
    (¬ (0 < x.q - qtyL (placeT m x) ∧ (x.w = 0 ∨ x.w = 3)) → ∀ o ∈ (placeM m x).all, o.id ≠ m.nu + 1) := by
  have hs' : otherS s < 2 := by unfold otherS; split <;> omega
  have eh' : x.h.toNat = h := by omega
  have eg' : x.g.toNat = g := by omega
  have es' : x.s.toNat = s := by omega
  have hb0 : (holdM { m with nu := m.nu + 1 } { x with id := m.nu + 1 }).bk = m.bk := bk_hold _ _
  obtain ⟨e1, e2⟩ := matchM_bk h g (otherS s) hs' (m.bk h g (otherS s)) (holdM { m with nu := m.nu + 1 } { x with id := m.nu + 1 }) { x with id := m.nu + 1 } (by rw [hb0])
  rw [setBk_bk hb0] at e1
  have D0 : Dims m (holdM { m with nu := m.nu + 1 } { x with id := m.nu + 1 }) := Dims.trans (b := { m with nu := m.nu + 1 }) ⟨rfl, rfl, rfl, rfl⟩ (same_hold _ _).dims
  have D1 := D0.trans (matchM_same (h := h) (g := g) (s := otherS s) (m.bk h g (otherS s)) (holdM { m with nu := m.nu + 1 } { x with id := m.nu + 1 }) { x with id := m.nu + 1 }).dims
  have hL := matchL_keys (m.bk h g (otherS s)) { x with id := m.nu + 1 }
  have hT : placeT m x = matchT ((holdM { m with nu := m.nu + 1 } { x with id := m.nu + 1 }).fee h) (m.bk h g (otherS s)) { x with id := m.nu + 1 } := by
    unfold placeT placed
    rw [if_pos hE, eh', eg', es', (matchM_t _ _ _ _ _ _).1]
  have hQ := matchL_qty ((holdM { m with nu := m.nu + 1 } { x with id := m.nu + 1 }).fee h) (m.bk h g (otherS s)) { x with id := m.nu + 1 }
  rw [← hT] at hQ
  have hM : placeM m x = settleM (matchM h g (otherS s) (m.bk h g (otherS s)) (holdM { m with nu := m.nu + 1 } { x with id := m.nu + 1 }) { x with id := m.nu + 1 }).1 (matchM h g (otherS s) (m.bk h g (otherS s)) (holdM { m with nu := m.nu + 1 } { x with id := m.nu + 1 }) { x with id := m.nu + 1 }).2.1 := by
    unfold placeM placed
    rw [if_pos hE, eh', eg', es']
  rw [hM]
  generalize matchL (m.bk h g (otherS s)) { x with id := m.nu + 1 } = ml at *
  generalize matchM h g (otherS s) (m.bk h g (otherS s)) (holdM { m with nu := m.nu + 1 } { x with id := m.nu + 1 }) { x with id := m.nu + 1 } = mm at *
  have hQ' : ml.2 = x.q - qtyL (placeT m x) := hQ
  rw [← hQ', e2]
  have old : ∀ a b c o, a < m.H → b < m.G → c < 2 → o ∈ mm.1.bk a b c → o.id ≠ m.nu + 1 := fun a b c o ha hb hc ho => by
    have h5 : o.key ∈ m.keys a b c := by
      have h4 : o.key ∈ mm.1.keys a b c := List.mem_map.2 ⟨o, ho, rfl⟩
      rw [keys_setBk e1] at h4
      unfold setB at h4
      split at h4
      · rename_i e; obtain ⟨rfl, rfl, rfl⟩ := e
        exact hL.subset h4
      · exact h4
    obtain ⟨y, hy, ey⟩ := List.mem_map.1 h5
    have h6 := (I.od a b c y ha hb hc hy).id
    have h7 : y.id = o.id := by
      have : y.key.id = o.key.id := by rw [ey]
      exact this
    omega
  unfold settleM
  constructor
  · intro hw
    rw [if_pos hw]
    generalize hx : ({ id := m.nu + 1, t := x.t, h := x.h, g := x.g, s := x.s, p := x.p, q := ml.2, w := x.w } : Od) = y
    have yi : y.id = m.nu + 1 := by rw [← hx]
    have yt : y.t = x.t := by rw [← hx]
    have yq : y.q = ml.2 := by rw [← hx]
    have yh : y.h.toNat = h := by rw [← hx]; exact eh'
    have yg : y.g.toNat = g := by rw [← hx]; exact eg'
    have ys : y.s.toNat = s := by rw [← hx]; exact es'
    have hbk : ∀ a b c, (waitM mm.1 y).bk a b c = if a = h ∧ b = g ∧ c = s then putAt (mm.1.bk h g s) (slot (ahAt (mm.1.bk h g s) s y) (mm.1.bk h g s).length) y else mm.1.bk a b c := fun a b c => by
      unfold waitM
      rw [yh, yg, ys]
      rfl
    have hH : (waitM mm.1 y).H = m.H := D1.H
    have hG : (waitM mm.1 y).G = m.G := D1.G
    refine ⟨⟨y, Mt.mem_all.2 ⟨h, g, s, by rw [hH]; exact q.1, by rw [hG]; exact q.2.1, q.2.2, ?_⟩, yt, yi⟩, fun o ho hid => ?_⟩
    · rw [hbk, if_pos ⟨rfl, rfl, rfl⟩]
      unfold putAt
      simp
    · obtain ⟨a, b, c, ha, hb, hc, hm⟩ := Mt.mem_all.1 ho
      rw [hH] at ha
      rw [hG] at hb
      rw [hbk] at hm
      split at hm
      · rcases mem_put hm with rfl | f
        · exact yq
        · exact absurd hid (old h g s o q.1 q.2.1 q.2.2 f)
      · exact absurd hid (old a b c o ha hb hc hm)
  · intro hw o ho
    rw [if_neg hw] at ho
    obtain ⟨a, b, c, ha, hb, hc, hm⟩ := Mt.mem_all.1 ho
    rw [release_bk] at hm
    rw [(dims_release _ _ _ _ _ _).H, D1.H] at ha
    rw [(dims_release _ _ _ _ _ _).G, D1.G] at hb
    exact old a b c o ha hb hc hm

theorem placeT_no {m : Mt} {x : Od} (hE : placeE m x ≠ 0) : placeT m x = [] ∧ placeI m x = 0 ∧ placeM m x = m := by
  unfold placeT placeI placeM
  rw [if_neg hE, if_neg hE, if_neg hE]
  exact ⟨rfl, rfl, rfl⟩

theorem placeE_ten {m : Mt} {x : Od} (hE : placeE m x = 10) : x.w = 3 := by
  unfold placeE at hE
  (repeat' split at hE) <;> first | omega | (rename_i h; exact h.1)

theorem placeE_eleven {m : Mt} {x : Od} (hE : placeE m x = 11) : x.w = 2 := by
  unfold placeE at hE
  (repeat' split at hE) <;> first | omega | (rename_i h; exact h.1)

/-- an order that is taken, by how it is done: to be whole, nothing is left; not to meet, nothing is traded -/
theorem placeE_how {m : Mt} {x : Od} (hE : placeE m x = 0) : (x.w = 3 → m.met x ≤ 0) ∧ (x.w = 2 → x.q ≤ m.met x) := by
  unfold placeE at hE
  (repeat' split at hE) <;> first | omega | (constructor <;> intro hw <;> omega)

end

section
open Go.RowKit Go.Sort

/-- what the last one of a number wants -/
def waitL (id : Int) (l : List Od) : Int := l.foldl (fun a o => if o.id = id then o.q else a) 0

theorem waitL_next (id : Int) (l : List Od) (k : Nat) (hk : k < l.length) : waitL id (l.take (k + 1)) = if l[k].id = id then l[k].q else waitL id (l.take k) := by
  unfold waitL
  rw [List.take_add_one, List.getElem?_eq_getElem hk, List.foldl_append]
  rfl

theorem waitL_none {id : Int} {l : List Od} (h : ∀ o ∈ l, o.id ≠ id) : waitL id l = 0 := by
  unfold waitL
  have gen : ∀ (l : List Od) (a : Int), (∀ o ∈ l, o.id ≠ id) → l.foldl (fun a o => if o.id = id then o.q else a) a = a := fun l => by
    induction l with
    | nil => intro a _; rfl
    | cons o r ih =>
      intro a h
      rw [List.foldl_cons, if_neg (h o (List.mem_cons_self ..))]
      exact ih a fun y hy => h y (List.mem_cons_of_mem _ hy)
  exact gen l 0 h

theorem waitL_all {id n : Int} {l : List Od} (h : ∃ o ∈ l, o.id = id) (hq : ∀ o ∈ l, o.id = id → o.q = n) : waitL id l = n := by
  unfold waitL
  have gen : ∀ (l : List Od) (a : Int), (a = n ∨ ∃ o ∈ l, o.id = id) → (∀ o ∈ l, o.id = id → o.q = n) → l.foldl (fun a o => if o.id = id then o.q else a) a = n := fun l => by
    induction l with
    | nil =>
      intro a h _
      rcases h with h | ⟨o, ho, _⟩
      · exact h
      · cases ho
    | cons o r ih =>
      intro a h hq
      rw [List.foldl_cons]
      refine ih _ ?_ fun y hy => hq y (List.mem_cons_of_mem _ hy)
      by_cases e : o.id = id
      · rw [if_pos e]
        exact .inl (hq o (List.mem_cons_self ..) e)
      · rw [if_neg e]
        rcases h with h | ⟨y, hy, e2⟩
        · exact .inl h
        · rcases List.mem_cons.1 hy with rfl | hy
          · exact absurd e2 e
          · exact .inr ⟨y, hy, e2⟩
  exact gen l 0 (.inr h) hq

theorem matchL_nn : ∀ (l : List Od) (o : Od), 0 ≤ o.q → 0 ≤ (matchL l o).2
  | [], o, h => h
  | z :: r, o, h => by
    unfold matchL
    by_cases h1 : o.q ≤ 0
    · rw [if_pos h1]; exact h
    · rw [if_neg h1]
      by_cases h2 : pfits o z = false
      · rw [if_pos h2]; exact h
      · rw [if_neg h2]
        by_cases h3 : z.t = o.t
        · rw [if_pos h3]; exact matchL_nn r o h
        · rw [if_neg h3]
          by_cases h4 : z.q - min o.q z.q = 0
          · rw [if_pos h4]
            exact matchL_nn r { o with q := o.q - min o.q z.q } (by show 0 ≤ o.q - min o.q z.q; omega)
          · rw [if_neg h4]
            show 0 ≤ o.q - min o.q z.q
            omega

theorem placeT_eq {m : Mt} {x : Od} (hE : placeE m x = 0) {h g s : Nat} (eh : x.h = h) (eg : x.g = g) (es : x.s = s) : placeT m x = matchT (m.fee h) (m.bk h g (otherS s)) { x with id := m.nu + 1 } := by
  unfold placeT placed
  rw [if_pos hE, show x.h.toNat = h by omega, show x.g.toNat = g by omega, show x.s.toNat = s by omega, (matchM_t _ _ _ _ _ _).1]
  rw [fee_rt (m := m) (show (holdM { m with nu := m.nu + 1 } { x with id := m.nu + 1 }).rt = m.rt by unfold holdM; split <;> rfl)]

theorem metL_id (o : Od) (n : Int) : ∀ l : List Od, metL { o with id := n } l = metL o l
  | [] => rfl
  | z :: r => by simp only [metL, metL_id o n r]; rfl

/-- what the end of Best asks of an order that was taken -/
structure BEnd (x : Od) (left : Int) (n : Nat) (wt : Int) : Prop where
  w0 : x.w = 0 → wt = left
  w3 : x.w = 3 → wt = x.q ∧ n = 0
  w2 : x.w = 2 → wt = 0 ∧ left = 0
  w1 : x.w = 1 → wt = 0

theorem best_end {m : Mt} {N : Int} (I : m.Inv N) (J : m.Jn) {x : Od} (hE : placeE m x = 0) {h g s : Nat} (q : at3 m h g s) (eh : x.h = h) (eg : x.g = g) (es : x.s = s) (hx : 1 ≤ x.q) {l : List Od} (T : Told (placeM m x) x.t l) :
    0 ≤ x.q - qtyL (placeT m x) ∧ BEnd x (x.q - qtyL (placeT m x)) (placeT m x).length (waitL (m.nu + 1) l) := by
  have hs' : otherS s < 2 := by unfold otherS; split <;> omega
  have hT := placeT_eq hE eh eg es
  have hq := matchL_qty (m.fee h) (m.bk h g (otherS s)) { x with id := m.nu + 1 }
  rw [← hT] at hq
  have nn := matchL_nn (m.bk h g (otherS s)) { x with id := m.nu + 1 } (by show 0 ≤ x.q; omega)
  rw [hq] at nn
  have nn' : 0 ≤ x.q - qtyL (placeT m x) := nn
  obtain ⟨p1, p2⟩ := place_waits I hE q eh eg es
  obtain ⟨c1, c2⟩ := placeE_how hE
  have hm : m.met x = metL x (m.bk h g (otherS s)) := by unfold Mt.met; rw [eh, eg, es]; simp
  have hq1 : ∀ z ∈ m.bk h g (otherS s), 1 ≤ z.q := fun z hz => (I.od h g (otherS s) z q.1 q.2.1 hs' hz).q.1
  have yes : 0 < x.q - qtyL (placeT m x) → (x.w = 0 ∨ x.w = 3) → waitL (m.nu + 1) l = x.q - qtyL (placeT m x) := fun a b => by
    obtain ⟨⟨o, h1, h2, h3⟩, h4⟩ := p1 ⟨a, b⟩
    exact waitL_all ⟨o, (T.mem o).2 ⟨h1, h2⟩, h3⟩ fun y hy e => h4 y ((T.mem y).1 hy).1 e
  have no : ¬ (0 < x.q - qtyL (placeT m x) ∧ (x.w = 0 ∨ x.w = 3)) → waitL (m.nu + 1) l = 0 := fun a => waitL_none fun o ho => p2 a o ((T.mem o).1 ho).1
  refine ⟨nn', fun e => ?_, fun e => ?_, fun e => ?_, fun e => no fun f => by omega⟩
  · by_cases h0 : 0 < x.q - qtyL (placeT m x)
    · exact yes h0 (.inl e)
    · rw [no fun f => h0 f.1]; omega
  · have h1 : placeT m x = [] := by
      rw [hT]
      refine matchT_none _ _ _ ?_
      have := metL_none _ hq1 (by rw [← hm]; exact c1 e)
      exact this
    have h2 : x.q - qtyL (placeT m x) = x.q := by rw [h1]; simp [qtyL]
    rw [h2] at yes
    exact ⟨yes (by omega) (.inr e), by rw [h1]; rfl⟩
  · refine ⟨no fun f => by omega, ?_⟩
    have h1 := matchL_full q.2.2 (m.bk h g (otherS s)) { x with id := m.nu + 1 } es (J.srt ⟨q.1, q.2.1, hs'⟩) hq1 (by show 0 ≤ x.q; omega) (by
      have h2 := c2 e
      rw [hm] at h2
      rw [metL_id]
      exact h2)
    rw [hq] at h1
    exact h1

end

end Go.Proofs.Ytcfoobhihhndjaa
