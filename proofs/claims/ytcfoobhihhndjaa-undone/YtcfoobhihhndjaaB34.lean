/- The statements' desk: what a trader has of a good in a hall. -/
import Derived.Test.YtcfoobhihhndjaaB10
import Derived.Test.YtcfoobhihhndjaaB33
namespace Go.Proofs.Ytcfoobhihhndjaa

section
open Go.RowKit Go.Sort

theorem skCells_at : ∀ (l : List Sk) (k j : Nat) (hk : k < l.length), j < 5 → (skCells l)[k * 5 + j]? = l[k].cells[j]?
  | x :: r, 0, j, _, hj => by
    simp only [skCells, List.flatMap_cons, Nat.zero_mul, Nat.zero_add, List.getElem_cons_zero]
    rw [List.getElem?_append_left (by simpa [Sk.cells] using hj)]
  | x :: r, k + 1, j, hk, hj => by
    have ih := skCells_at r k j (by simpa using hk) hj
    simp only [skCells, List.flatMap_cons, List.getElem_cons_succ] at ih ⊢
    rw [List.getElem?_append_right (by simp [Sk.cells]; omega)]
    rw [← ih]
    congr 1
    simp [Sk.cells]
    omega

theorem mem_stkRow {m : Mt} {t h k : Nat} {s : Sk} (hs : s ∈ stkRow m t h k) : ∃ g, g < k ∧ s ∈ stk m t h g := by
  induction k with
  | zero => cases hs
  | succ k ih =>
    rcases List.mem_append.1 hs with q | q
    · obtain ⟨g, h1, h2⟩ := ih q
      exact ⟨g, by omega, h2⟩
    · exact ⟨k, by omega, q⟩
theorem mem_stkTo {m : Mt} {t i : Nat} {s : Sk} (hs : s ∈ stkTo m t i) : ∃ h g, h < i ∧ g < m.G ∧ s ∈ stk m t h g := by
  induction i with
  | zero => cases hs
  | succ i ih =>
    rcases List.mem_append.1 hs with q | q
    · obtain ⟨h, g, h1, h2, h3⟩ := ih q
      exact ⟨h, g, by omega, h2, h3⟩
    · obtain ⟨g, h1, h2⟩ := mem_stkRow q
      exact ⟨i, g, by omega, h1, h2⟩
theorem stkRow_mem {m : Mt} {t h k g : Nat} (hg : g < k) {s : Sk} (hs : s ∈ stk m t h g) : s ∈ stkRow m t h k := by
  induction k with
  | zero => omega
  | succ k ih =>
    by_cases e : g = k
    · subst e; exact List.mem_append.2 (.inr hs)
    · exact List.mem_append.2 (.inl (ih (by omega)))
theorem stkTo_mem {m : Mt} {t i h g : Nat} (hh : h < i) (hg : g < m.G) {s : Sk} (hs : s ∈ stk m t h g) : s ∈ stkTo m t i := by
  induction i with
  | zero => omega
  | succ i ih =>
    by_cases e : h = i
    · subst e; exact List.mem_append.2 (.inr (stkRow_mem hg hs))
    · exact List.mem_append.2 (.inl (ih (by omega)))

/-- an entry of an account says what there is -/
theorem stk_says {m : Mt} {t i : Nat} {s : Sk} (hs : s ∈ stkTo m t i) {h g : Nat} (e1 : s.h = h) (e2 : s.g = g) : s.f = m.pc t h g ∧ s.k = m.kept t h g ∧ s.c = m.come t h g := by
  obtain ⟨a, b, _, _, k⟩ := mem_stkTo hs
  unfold stk at k
  split at k
  · have : s = ⟨a, b, m.pc t a b, m.kept t a b, m.come t a b⟩ := by simpa using k
    subst this
    have h1 : a = h := by have : (a : Int) = h := e1; omega
    have h2 : b = g := by have : (b : Int) = g := e2; omega
    subst h1 h2
    exact ⟨rfl, rfl, rfl⟩
  · cases k

/-- where no entry is, there is nothing -/
theorem stk_none {m : Mt} {t h g : Nat} (hh : h < m.H) (hg : g < m.G) (hn : ∀ s ∈ stkTo m t m.H, ¬ (s.h = h ∧ s.g = g)) : m.pc t h g = 0 ∧ m.kept t h g = 0 ∧ m.come t h g = 0 := by
  by_cases q : m.pc t h g ≠ 0 ∨ m.kept t h g ≠ 0 ∨ m.come t h g ≠ 0
  · exact absurd ⟨rfl, rfl⟩ (hn _ (stkTo_mem hh hg (show (⟨h, g, m.pc t h g, m.kept t h g, m.come t h g⟩ : Sk) ∈ stk m t h g by rw [stk, if_pos q]; exact List.mem_singleton.2 rfl)))
  · omega

theorem five_put {w : World} {b : Nat} {u0 u1 u2 u3 u4 : Value} (h0 : Own w ⟨b, 0, none⟩ u0) (h1 : Own w ⟨b, 1, none⟩ u1) (h2 : Own w ⟨b, 2, none⟩ u2) (h3 : Own w ⟨b, 3, none⟩ u3) (h4 : Own w ⟨b, 4, none⟩ u4) (v0 v1 v2 v3 v4 : Value) :
    (((((w.setCell ⟨b, 0, none⟩ v0).setCell ⟨b, 1, none⟩ v1).setCell ⟨b, 2, none⟩ v2).setCell ⟨b, 3, none⟩ v3).setCell ⟨b, 4, none⟩ v4).cell? ⟨b, 0, none⟩ = some v0 ∧ (((((w.setCell ⟨b, 0, none⟩ v0).setCell ⟨b, 1, none⟩ v1).setCell ⟨b, 2, none⟩ v2).setCell ⟨b, 3, none⟩ v3).setCell ⟨b, 4, none⟩ v4).cell? ⟨b, 1, none⟩ = some v1 ∧ (((((w.setCell ⟨b, 0, none⟩ v0).setCell ⟨b, 1, none⟩ v1).setCell ⟨b, 2, none⟩ v2).setCell ⟨b, 3, none⟩ v3).setCell ⟨b, 4, none⟩ v4).cell? ⟨b, 2, none⟩ = some v2 ∧ (((((w.setCell ⟨b, 0, none⟩ v0).setCell ⟨b, 1, none⟩ v1).setCell ⟨b, 2, none⟩ v2).setCell ⟨b, 3, none⟩ v3).setCell ⟨b, 4, none⟩ v4).cell? ⟨b, 3, none⟩ = some v3 ∧ (((((w.setCell ⟨b, 0, none⟩ v0).setCell ⟨b, 1, none⟩ v1).setCell ⟨b, 2, none⟩ v2).setCell ⟨b, 3, none⟩ v3).setCell ⟨b, 4, none⟩ v4).cell? ⟨b, 4, none⟩ = some v4 := by
  have ne : ∀ i j : Nat, i ≠ j → (⟨b, i, none⟩ : Addr) ≠ ⟨b, j, none⟩ := fun i j hj q => by injection q with _ q _; exact hj q
  have o : ∀ {w : World} {i : Nat} {x : Value} (j : Nat) (y : Value), i ≠ j → Own w ⟨b, i, none⟩ x → Own (w.setCell ⟨b, j, none⟩ y) ⟨b, i, none⟩ x := fun j y hij hx => hx.set_other (ne _ _ hij) rfl rfl y
  exact ⟨(o 4 _ (by decide) (o 3 _ (by decide) (o 2 _ (by decide) (o 1 _ (by decide) (h0.set rfl v0))))).cell, (o 4 _ (by decide) (o 3 _ (by decide) (o 2 _ (by decide) ((o 0 _ (by decide) h1).set rfl v1)))).cell, (o 4 _ (by decide) (o 3 _ (by decide) ((o 1 _ (by decide) (o 0 _ (by decide) h2)).set rfl v2))).cell,
    (o 4 _ (by decide) ((o 2 _ (by decide) (o 1 _ (by decide) (o 0 _ (by decide) h3))).set rfl v3)).cell, ((o 3 _ (by decide) (o 2 _ (by decide) (o 1 _ (by decide) (o 0 _ (by decide) h4)))).set rfl v4).cell⟩

theorem five_kep {a w : World} {b : Nat} (k : Kep non a w) (hb : a.heap.size ≤ b) (v0 v1 v2 v3 v4 : Value) : Kep non a (((((w.setCell ⟨b, 0, none⟩ v0).setCell ⟨b, 1, none⟩ v1).setCell ⟨b, 2, none⟩ v2).setCell ⟨b, 3, none⟩ v3).setCell ⟨b, 4, none⟩ v4) :=
  ((((k.setCell (p := ⟨b, 0, none⟩) (.inr hb) v0).setCell (p := ⟨b, 1, none⟩) (.inr hb) v1).setCell (p := ⟨b, 2, none⟩) (.inr hb) v2).setCell (p := ⟨b, 3, none⟩) (.inr hb) v3).setCell (p := ⟨b, 4, none⟩) (.inr hb) v4

/-- a stock, told; nothing else turned -/
def StkPost (W : World) (f k c : Int) (e : Ending) (w' : World) : Prop := ∃ a b : Int, e = .returned (.agg #[.int .i64 a, .int .i64 b, .int .i64 f, .int .i64 k, .int .i64 c]) ∧ Kep non W w'

set_option maxRecDepth 100000 in
set_option maxHeartbeats 2000000 in
theorem dstock_any (W : World) (d : Nat) (L : PL) (m : Mt) (N : Int) (R : PRep W L m) (ok : m.Ok N) (c0 : Own W ⟨d, 0, none⟩ (.pointer (some ⟨L.x, 0, none⟩))) (t h g : Nat) (ht : t < m.T) (hh : h < m.H) (hg : g < m.G) :
    Calls Try.prog 13 #[.pointer (some ⟨d, 0, none⟩), .int .i64 t, .int .i64 h, .int .i64 g] W (StkPost W (m.pc t h g) (m.kept t h g) (m.come t h g)) := by
  have K0 : Kep non W (W.alloc (.cells #[.int .i64 0, .int .i64 0, .int .i64 0, .int .i64 0, .int .i64 0] 33)) := (Kep.refl _ _).alloc _
  have HA := hide (account_yes _ L m N t (R.later K0) ok ht)
  have hb := heap_alloc_new W (.cells #[.int .i64 0, .int .i64 0, .int .i64 0, .int .i64 0, .int .i64 0] 33)
  have c0' := (c0.kep K0 (fun f => f)).cell
  have HK := hide K0
  have HB := hide hb
  have l4 := ok.G4
  have h4 := ok.H4
  have HS := hide (fun s (hs : s ∈ stkTo m t m.H) => stk_says hs (h := h) (g := g))
  have HN := hide (stk_none (t := t) hh hg)
  have hlen := stkTo_len m t m.H l4
  clear K0 hb c0 R ok
  generalize stkTo m t m.H = gs at *
  generalize m.pc t h g = fr at *
  generalize m.kept t h g = ke at *
  generalize m.come t h g = co at *
  generalize m.mo t = mo at *
  generalize m.held t = he at *
  go_enter Try.func13, Try.ntmps13
  go_wp2_with fail
  refine HA.out.mono ?_
  rintro e w1 ⟨v, rfl, k1, hrow⟩
  obtain ⟨va, vc, hv⟩ : ∃ va vc, v = .slice va gs.length vc := by
    rcases hrow.2 with ⟨e1, e2⟩ | ⟨b, cap, cur, e1, _⟩
    · exact ⟨none, 0, by rw [e1, e2]⟩
    · exact ⟨_, _, e1⟩
  subst hv
  have hb1 := (k1.block W.heap.size (by simp) (fun f => f)).trans HB.out
  have k2 : Kep non w1 (w1.alloc (.cells #[.int .i64 mo, .int .i64 he, .slice va gs.length vc] 62)) := (Kep.refl _ _).alloc _
  have cb := cell_of_row _ _ 2 _ _ _ (heap_alloc_new w1 (.cells #[.int .i64 mo, .int .i64 he, .slice va gs.length vc] 62))
  have hb2 := (k2.block W.heap.size (Array.getElem?_eq_some_iff.1 hb1).1 (fun f => f)).trans hb1
  have HK2 := hide ((HK.out.trans k1).trans k2)
  have HR2 := hide (fun j (hj : j < gs.length) => show ∃ b, va = some ⟨b, 0, none⟩ ∧ ∀ i u, gs[j].cells[i]? = some u → (w1.alloc (.cells #[.int .i64 mo, .int .i64 he, .slice va gs.length vc] 62)).cell? ⟨b, j * 5 + i, none⟩ = some u by
    rcases hrow.2 with ⟨e1, e2⟩ | ⟨b, cap, cur, e1, _⟩
    · omega
    · have hr := hrow
      rw [e1] at hr
      injection e1 with e1 _ _
      refine ⟨b, e1, fun i u hu => k2.cell ?_ (fun f => f)⟩
      have hi : i < 5 := by have := (List.getElem?_eq_some_iff.1 hu).1; simpa [Sk.cells] using this
      rw [hr.cellAt _ (by omega), skCells_at gs j i hj hi]
      simpa using hu)
  have r0 := cell_of_row _ _ 0 _ _ _ hb2
  have r1 := cell_of_row _ _ 1 _ _ _ hb2
  have r2 := cell_of_row _ _ 2 _ _ _ hb2
  have r3 := cell_of_row _ _ 3 _ _ _ hb2
  have r4 := cell_of_row _ _ 4 _ _ _ hb2
  have fz := fun j => frozen_of_row _ _ j _ _ hb2
  have HZ := hide hb2
  have lw : W.heap.size < w1.heap.size := (Array.getElem?_eq_some_iff.1 hb1).1
  clear hrow k1 k2 hb1 hb2 HA HK HB c0'
  go_wp2
  generalize w1.alloc (.cells #[.int .i64 mo, .int .i64 he, .slice va gs.length vc] 62) = W2 at *
  go_loop [11] (fun i => ∃ j : Nat, j ≤ gs.length ∧ i = .int .i64 j ∧ ∀ k (hk : k < gs.length), k < j → ¬ (gs[k].h = h ∧ gs[k].g = g)) (fun i => gs.length - (intOf i).toNat)
  case atStart => exact ⟨0, Nat.zero_le _, rfl, fun k _ hk => by omega⟩
  case round =>
    obtain ⟨j, hj, rfl, hno⟩ := hrel
    have HNo := hide hno
    clear hno
    by_cases hlt : j < gs.length
    · obtain ⟨b, rfl, hc⟩ := HR2.out j hlt
      have q0 := hc 0 _ rfl
      have q1 := hc 1 _ rfl
      have q2 := hc 2 _ rfl
      have q3 := hc 3 _ rfl
      have q4 := hc 4 _ rfl
      simp only [Nat.add_zero] at q0
      have HSj := hide (HS.out gs[j] (List.getElem_mem hlt))
      have HD : Hid (∀ k (hk : k < gs.length), k < j + 1 → ¬ (gs[j].h = h ∧ gs[j].g = g) → ¬ (gs[k].h = h ∧ gs[k].g = g)) := hide fun k hk h1 h2 => by
        by_cases e : k = j
        · subst e; exact h2
        · exact HNo.out k hk (by omega)
      clear hc
      generalize gs[j] = s at *
      by_cases m1 : s.h = h
      · have e1 : (s.h == (h : Int)) = true := beq_iff_eq.2 m1
        by_cases m2 : s.g = g
        · have e2 : (s.g == (g : Int)) = true := beq_iff_eq.2 m2
          obtain ⟨f1, f2, f3⟩ := HSj.out m1 m2
          rw [f1] at q2
          rw [f2] at q3
          rw [f3] at q4
          rw [m1] at q0
          rw [m2] at q1
          clear f1 f2 f3 e1 e2 m1 m2
          go_wp2
          have T := five_put ⟨r0, fz 0⟩ ⟨r1, fz 1⟩ ⟨r2, fz 2⟩ ⟨r3, fz 3⟩ ⟨r4, fz 4⟩ (.int .i64 h) (.int .i64 g) (.int .i64 fr) (.int .i64 ke) (.int .i64 co)
          exact bodyPost_ret (v := .agg #[.int .i64 h, .int .i64 g, .int .i64 fr, .int .i64 ke, .int .i64 co]) (by simp [results, Try.results13, go_sem, T.1, T.2.1, T.2.2.1, T.2.2.2.1, T.2.2.2.2]) rfl ⟨_, _, rfl, five_kep HK2.out (Nat.le_refl _) _ _ _ _ _⟩
        · have e2 : (s.g == (g : Int)) = false := beq_eq_false_iff_ne.2 m2
          go_wp2
          go_round
          case rel => exact ⟨j + 1, by omega, by go_num, fun k hk h1 => HD.out k hk h1 (fun f => m2 f.2)⟩
          case measure => simp [intOf]; omega
      · have e1 : (s.h == (h : Int)) = false := beq_eq_false_iff_ne.2 m1
        go_wp2
        go_round
        case rel => exact ⟨j + 1, by omega, by go_num, fun k hk h1 => HD.out k hk h1 (fun f => m1 f.1)⟩
        case measure => simp [intOf]; omega
    · have HE := hide (HN.out (fun s hs => by
        obtain ⟨k, hk, rfl⟩ := List.getElem_of_mem hs
        exact HNo.out k hk (by omega)))
      go_wp2
      have T := five_put ⟨r0, fz 0⟩ ⟨r1, fz 1⟩ ⟨r2, fz 2⟩ ⟨r3, fz 3⟩ ⟨r4, fz 4⟩ (.int .i64 0) (.int .i64 0) (.int .i64 0) (.int .i64 0) (.int .i64 0)
      refine bodyPost_ret (v := .agg #[.int .i64 0, .int .i64 0, .int .i64 0, .int .i64 0, .int .i64 0]) (by simp [results, Try.results13, go_sem, T.1, T.2.1, T.2.2.1, T.2.2.2.1, T.2.2.2.2]) rfl ⟨0, 0, ?_, five_kep HK2.out (Nat.le_refl _) _ _ _ _ _⟩
      rw [HE.out.1, HE.out.2.1, HE.out.2.2]
end

/- The desk's calls on its market. -/
section
open Go.RowKit Go.Sort

section
variable {w : World} {rs : List Int} {x : Nat} {mon p0 p1 : Int} {m : Mt} {W : World} {N : Int}

theorem Desk.ptr (D : Desk w rs x mon p0 p1 m W) : W.cell? ⟨w.heap.size, 0, none⟩ = some (.pointer (some ⟨x, 0, none⟩)) := by
  obtain ⟨L, rv, pb, rfl, D⟩ := D
  exact D.c0.cell
theorem Desk.kp (D : Desk w rs x mon p0 p1 m W) : Kep non w W := by
  obtain ⟨L, rv, pb, rfl, D⟩ := D
  exact D.kp

theorem Desk.pp' {m' : Mt} {L : PL} {rv : Value} {pb : Nat} (e : L.x = x) (D : DRep w w.heap.size rs mon p0 p1 L rv pb m W) {W' : World} (P : PPost W L m m' W') : Desk w rs x mon p0 p1 m' W' := by
  obtain ⟨L', e', D'⟩ := Desk.pp D P
  exact ⟨L', rv, pb, e'.trans e, D'⟩

theorem Desk.tick (D : Desk w rs x mon p0 p1 m W) (I : m.Inv N) : Calls Try.prog 11 #[.pointer (some ⟨x, 0, none⟩)] W fun e w' => e = .returned (.int .i64 (tickE m)) ∧ Desk w rs x mon p0 p1 (tickM m) w' := by
  obtain ⟨L, rv, pb, rfl, D⟩ := D
  exact (progTick_any W L m N D.R I.ok (by have := I.bN; omega)).mono fun e w' ⟨h1, h2⟩ => ⟨h1, Desk.pp' rfl D h2⟩
theorem Desk.ship (D : Desk w rs x mon p0 p1 m W) (I : m.Inv N) (t f o g n : Int) : Calls Try.prog 12 #[.pointer (some ⟨x, 0, none⟩), .int .i64 t, .int .i64 f, .int .i64 o, .int .i64 g, .int .i64 n] W fun e w' => e = .returned (.int .i64 (shipE m t f o g n)) ∧ Desk w rs x mon p0 p1 (shipM m t f o g n) w' := by
  obtain ⟨L, rv, pb, rfl, D⟩ := D
  exact (progShip_any W L m N t f o g n D.R I.ok).mono fun e w' ⟨h1, h2⟩ => ⟨h1, Desk.pp' rfl D h2⟩
theorem Desk.take (D : Desk w rs x mon p0 p1 m W) (I : m.Inv N) (t h g n : Int) : Calls Try.prog 14 #[.pointer (some ⟨x, 0, none⟩), .int .i64 t, .int .i64 h, .int .i64 g, .int .i64 n] W fun e w' => e = .returned (.int .i64 (takeE m t h g n)) ∧ Desk w rs x mon p0 p1 (takeM m t h g n) w' := by
  obtain ⟨L, rv, pb, rfl, D⟩ := D
  exact (progTake_any W L m N t h g n D.R I.ok).mono fun e w' ⟨h1, h2⟩ => ⟨h1, Desk.pp' rfl D h2⟩
theorem Desk.bring (D : Desk w rs x mon p0 p1 m W) (I : m.Inv N) (t h g n : Int) : Calls Try.prog 29 #[.pointer (some ⟨x, 0, none⟩), .int .i64 t, .int .i64 h, .int .i64 g, .int .i64 n] W fun e w' => e = .returned (.int .i64 (bringE m t h g n)) ∧ Desk w rs x mon p0 p1 (bringM m t h g n) w' := by
  obtain ⟨L, rv, pb, rfl, D⟩ := D
  exact (progBring_any W L m N t h g n D.R I.ok).mono fun e w' ⟨h1, h2⟩ => ⟨h1, Desk.pp' rfl D h2⟩
theorem Desk.pay (D : Desk w rs x mon p0 p1 m W) (I : m.Inv N) (t n : Int) : Calls Try.prog 28 #[.pointer (some ⟨x, 0, none⟩), .int .i64 t, .int .i64 n] W fun e w' => e = .returned (.int .i64 (payE m t n)) ∧ Desk w rs x mon p0 p1 (payM m t n) w' := by
  obtain ⟨L, rv, pb, rfl, D⟩ := D
  exact (progPay_any W L m N t n D.R I.ok).mono fun e w' ⟨h1, h2⟩ => ⟨h1, Desk.pp' rfl D h2⟩
theorem Desk.draw (D : Desk w rs x mon p0 p1 m W) (I : m.Inv N) (t n : Int) : Calls Try.prog 37 #[.pointer (some ⟨x, 0, none⟩), .int .i64 t, .int .i64 n] W fun e w' => e = .returned (.int .i64 (drawE m t n)) ∧ Desk w rs x mon p0 p1 (drawM m t n) w' := by
  obtain ⟨L, rv, pb, rfl, D⟩ := D
  exact (progDraw_any W L m N t n D.R I.ok).mono fun e w' ⟨h1, h2⟩ => ⟨h1, Desk.pp' rfl D h2⟩

theorem Desk.stock (D : Desk w rs x mon p0 p1 m W) (I : m.Inv N) (t h g : Nat) (ht : t < m.T) (hh : h < m.H) (hg : g < m.G) : Calls Try.prog 13 #[.pointer (some ⟨w.heap.size, 0, none⟩), .int .i64 t, .int .i64 h, .int .i64 g] W fun e w' => ∃ a b : Int, e = .returned (.agg #[.int .i64 a, .int .i64 b, .int .i64 (m.pc t h g), .int .i64 (m.kept t h g), .int .i64 (m.come t h g)]) ∧ Desk w rs x mon p0 p1 m w' := by
  have D0 := D
  obtain ⟨L, rv, pb, rfl, D⟩ := D
  exact (dstock_any W w.heap.size L m N D.R I.ok D.c0 t h g ht hh hg).mono fun e w' ⟨a, b, h1, h2⟩ => ⟨a, b, h1, D0.later h2⟩
end
end

end Go.Proofs.Ytcfoobhihhndjaa
