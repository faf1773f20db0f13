/- The program's market: how its memory turns; what its calls on accounts do, in plain words. -/
import Derived.Deep.CutRange
import Derived.Deep.RegionHeld3
import Derived.Deep.RegionWith
import Derived.Test.YtcfoobhihhndjaaB04
namespace Go.Proofs.Ytcfoobhihhndjaa

section
open Go.RowKit Go.Sort

abbrev okI (n : Nat) (t : Int) : Prop := 0 ≤ t ∧ t < n
abbrev okN (x B : Int) : Prop := 1 ≤ x ∧ x ≤ B
def inB (n : Nat) (t : Int) : Bool := decide (okI n t)
def inR (n a b : Int) : Bool := decide (a ≤ n ∧ n ≤ b)
theorem inR_okN {x B : Int} (h : okN x B) : inR x 1 B = true := decide_eq_true h
theorem inR_not {x B : Int} (h : ¬ okN x B) : inR x 1 B = false := decide_eq_false h
theorem inB_okI {n : Nat} {t : Int} (h : okI n t) : inB n t = true := decide_eq_true h
theorem inB_not {n : Nat} {t : Int} (h : ¬ okI n t) : inB n t = false := decide_eq_false h
theorem ret_int {k : IntKind} {a b : Int} (h : a = b) : Ending.returned (.int k a) = .returned (.int k b) := by rw [h]

def rowTo (m : Mt) (g i : Nat) : Nat → Int
  | 0 => 0
  | k + 1 => rowTo m g i k + (m.pc i k g + m.kept i k g + m.come i k g)
def totTo (m : Mt) (g : Nat) : Nat → Int
  | 0 => 0
  | i + 1 => totTo m g i + rowTo m g i m.H

def Mt.setMo (m : Mt) (k : Nat) (x : Int) : Mt := { m with mo := fun i => if i = k then x else m.mo i }
def Mt.setPc (m : Mt) (t h g : Nat) (x : Int) : Mt := { m with pc := fun i j k => if i = t ∧ j = h ∧ k = g then x else m.pc i j k }

def payE (m : Mt) (t x : Int) : Int := if ¬ okI m.T t then 2 else if ¬ okN x 1000000000000 then 5 else if 1000000000000 < m.sumM m.T + x then 8 else 0
def payM (m : Mt) (t x : Int) : Mt := if payE m t x = 0 then m.setMo t.toNat (m.mo t.toNat + x) else m
def drawE (m : Mt) (t x : Int) : Int := if ¬ okI m.T t then 2 else if ¬ okN x 1000000000000 then 5 else if m.mo t.toNat < x then 6 else 0
def drawM (m : Mt) (t x : Int) : Mt := if drawE m t x = 0 then m.setMo t.toNat (m.mo t.toNat - x) else m
def lotsE (m : Mt) (t h g n : Int) : Int := if ¬ okI m.T t then 2 else if ¬ okI m.H h then 3 else if ¬ okI m.G g then 4 else if ¬ okN n 10000 then 5 else 0
def bringE (m : Mt) (t h g n : Int) : Int := if lotsE m t h g n ≠ 0 then lotsE m t h g n else if 1000000 < totTo m g.toNat m.T + n then 8 else 0
def bringM (m : Mt) (t h g n : Int) : Mt := if bringE m t h g n = 0 then m.setPc t.toNat h.toNat g.toNat (m.pc t.toNat h.toNat g.toNat + n) else m
def takeE (m : Mt) (t h g n : Int) : Int := if lotsE m t h g n ≠ 0 then lotsE m t h g n else if m.pc t.toNat h.toNat g.toNat < n then 7 else 0
def takeM (m : Mt) (t h g n : Int) : Mt := if takeE m t h g n = 0 then m.setPc t.toNat h.toNat g.toNat (m.pc t.toNat h.toNat g.toNat - n) else m

theorem lotsE_zero {m : Mt} {t h g n : Int} (e : lotsE m t h g n = 0) : okI m.T t ∧ okI m.H h ∧ okI m.G g ∧ okN n 10000 := by
  unfold lotsE at e
  by_cases h1 : okI m.T t
  · by_cases h2 : okI m.H h
    · by_cases h3 : okI m.G g
      · by_cases h4 : okN n 10000
        · exact ⟨h1, h2, h3, h4⟩
        · simp [h1, h2, h3, h4] at e
      · simp [h1, h2, h3] at e
    · simp [h1, h2] at e
  · simp [h1] at e

theorem come_ok {m : Mt} {N : Int} (o : m.Ok N) (t h g : Int) : 0 ≤ m.come t h g ∧ m.come t h g ≤ 200000 := by
  have := comeL_take_bd o t h g m.ld.length
  rwa [List.take_length] at this

theorem kept_ok {m : Mt} {N : Int} (o : m.Ok N) (t : Int) {h g : Nat} (hh : h < m.H) (hg : g < m.G) : 0 ≤ m.kept t h g ∧ m.kept t h g ≤ 600000 := by
  have h1 := keptL_bd t (m.bk h g 1) (fun x hx => (o.all_ok (Mt.mem_all.2 ⟨h, g, 1, hh, hg, by omega, hx⟩)).2.2.2)
  have h2 := o.a60
  have h3 : (m.bk h g 1).length ≤ m.all.length := by
    have e1 : ∀ {f : Nat → Nat → List Od} {g G : Nat}, g < G → (f g 1).length ≤ (upG f G).length := by
      intro f g G hg
      induction G with
      | zero => omega
      | succ k ih =>
        simp only [upG, two, List.length_append]
        by_cases e : g = k
        · subst e; omega
        · have := ih (by omega); omega
    have e2 : ∀ {f : Nat → Nat → Nat → List Od} {G h H : Nat}, h < H → (upG (f h) G).length ≤ (upH G f H).length := by
      intro f G h H hh
      induction H with
      | zero => omega
      | succ k ih =>
        simp only [upH, List.length_append]
        by_cases e : h = k
        · subst e; omega
        · have := ih (by omega); omega
    exact Nat.le_trans (e1 (f := m.bk h) hg) (e2 hh)
  simp only [Mt.kept]
  omega

theorem rowTo_bd {m : Mt} {N : Int} (o : m.Ok N) (g i : Nat) (hg : g < m.G) (hi : i < m.T) : ∀ k, k ≤ m.H → 0 ≤ rowTo m g i k ∧ rowTo m g i k ≤ 1000000800000 * k := by
  intro k
  induction k with
  | zero => simp [rowTo]
  | succ k ih =>
    intro hk
    have h1 := ih (by omega)
    have h2 := o.pc i k g hi (by omega) hg
    have h3 := come_ok o i k g
    have h5 := kept_ok o i (h := k) (g := g) (by omega) hg
    have h4 := o.bN
    simp only [rowTo]
    omega

theorem totTo_bd {m : Mt} {N : Int} (o : m.Ok N) (g : Nat) (hg : g < m.G) : ∀ i, i ≤ m.T → 0 ≤ totTo m g i ∧ totTo m g i ≤ 4000003200000 * i := by
  intro i
  induction i with
  | zero => simp [totTo]
  | succ i ih =>
    intro hi
    have h1 := ih (by omega)
    have h2 := rowTo_bd o g i hg (by omega) m.H (Nat.le_refl _)
    have h3 := o.H4
    simp only [totTo]
    omega

/-! ### memory -/

theorem PRep.ne {w : World} {L : PL} {m : Mt} (R : PRep w L m) {i j : Jx} {a b : Nat} (h1 : L.F m i = some a) (h2 : L.F m j = some b) (hij : i ≠ j) : a ≠ b := fun e => hij (R.inj i j b (e ▸ h1) h2)

/-- accounts that turned -/
theorem PRep.setAb {w w' : World} {L : PL} {m : Mt} (R : PRep w L m) (k : Kep (fun b => b = L.ab) w w') (mo : Nat → Int) (pc : Nat → Nat → Nat → Int) (hmo : ∀ t, t < m.T → Own w' ⟨L.ab, t * 17, none⟩ (.int .i64 (mo t))) (hpc : ∀ t h g, t < m.T → h < 4 → g < 4 → Own w' ⟨L.ab, t * 17 + 1 + h * 4 + g, none⟩ (.int .i64 (pc t h g))) :
    PRep w' L { m with mo := mo, pc := pc } := by
  have ab : ∀ {j : Jx} {b : Nat}, L.F m j = some b → j ≠ .ab → b ≠ L.ab := fun h hj => R.ne h (show L.F m .ab = some L.ab from rfl) hj
  have a1 : L.x ≠ L.ab := ab (j := .x) rfl (by simp)
  have a3 : ∀ i, i < m.H → L.gb i ≠ L.ab := fun i hi => ab (j := .gb i) (by simp [PL.F, hi]) (by simp)
  have a4 : ∀ i g s, at3 m i g s → L.qb i g s ≠ L.ab := fun i g s q => ab (j := .qb i g s) (by simp [PL.F, q]) (by simp)
  have a5 : ∀ i g s b, at3 m i g s → (L.qv i g s).ownBlock = some b → b ≠ L.ab := fun i g s b q e => ab (j := .qv i g s) (by simp [PL.F, q, e]) (by simp)
  have a6 : ∀ i g s n b, at3 m i g s → (L.ob i g s)[n]? = some b → b ≠ L.ab := fun i g s n b q e => ab (j := .ob i g s n) (by simp [PL.F, q, e]) (by simp)
  have a7 : L.rb ≠ L.ab := fun e => R.nrb ⟨.ab, by rw [e]; rfl⟩
  have a8 : L.bb ≠ L.ab := fun e => R.nbb ⟨.ab, by rw [e]; rfl⟩
  exact ⟨R.cG.kep k a1, R.cR.kep k a1, R.cA.kep k a1, R.cL.kep k a1, R.cB.kep k a1, R.cN.kep k a1, R.cH.kep k a1, R.cTm.kep k a1, fun i hi => k.cell (R.rt i hi) a7, hmo, hpc,
    ownsRow_kep R.ld k (fun b hb => ab (j := .lv) hb (by simp)), fun i hi => k.cell (R.bks i hi) a8, fun i g s q => (R.sd i g s q).kep k (a3 i q.1), fun i g hi hg => (R.la i g hi hg).kep k (a3 i hi), fun i g hi hg => (R.pi i g hi hg).kep k (a3 i hi), fun i g hi hg => (R.am i g hi hg).kep k (a3 i hi),
    fun i g s q => k.cell (R.q0 i g s q) (a4 i g s q), fun i g s q => (R.q1 i g s q).kep k (a4 i g s q), fun i g s q => ownsRow_kep (R.qr i g s q) k (fun b e => a5 i g s b q e), R.ln, fun i g s n b o q e1 e2 j v e3 => (R.oc i g s n b o q e1 e2 j v e3).kep k (a6 i g s n b q e1), fun i g s n b q e => (R.oz i g s n b q e).kep k (a6 i g s n b q e), R.inj, R.nrb, R.nbb⟩

theorem off_inj {t a t' a' : Nat} (ha : a < 17) (ha' : a' < 17) (h : t * 17 + a = t' * 17 + a') : t = t' ∧ a = a' := by omega
theorem off_mo_pc {t h g t' : Nat} (hh : h < 4) (hg : g < 4) : t * 17 + 1 + h * 4 + g ≠ t' * 17 := fun q => by
  have := off_inj (t := t) (a := 1 + h * 4 + g) (t' := t') (a' := 0) (by omega) (by omega) (by omega)
  omega
theorem off_pc {t h g t' h' g' : Nat} (hh : h < 4) (hg : g < 4) (hh' : h' < 4) (hg' : g' < 4) (q : t * 17 + 1 + h * 4 + g = t' * 17 + 1 + h' * 4 + g') : t = t' ∧ h = h' ∧ g = g' := by
  have := off_inj (t := t) (a := 1 + h * 4 + g) (t' := t') (a' := 1 + h' * 4 + g') (by omega) (by omega) (by omega)
  omega

theorem PRep.setMo {w : World} {L : PL} {m : Mt} (R : PRep w L m) (k : Nat) (hk : k < m.T) (x : Int) : PRep (w.setCell ⟨L.ab, k * 17, none⟩ (.int .i64 x)) L (m.setMo k x) := by
  refine R.setAb ((Kep.refl (fun b => b = L.ab) w).setCell (p := ⟨L.ab, k * 17, none⟩) (.inl rfl) _) _ _ (fun t ht => ?_) (fun t h g ht hh hg => (R.pc t h g ht hh hg).set_other (by intro q; injection q with _ q _; exact off_mo_pc hh hg q) rfl rfl _)
  by_cases e : t = k
  · subst e
    simpa using (R.mo t hk).set rfl (.int .i64 x)
  · simpa [e] using (R.mo t ht).set_other (q := ⟨L.ab, k * 17, none⟩) (by intro q; injection q with _ q _; omega) rfl rfl (.int .i64 x)

theorem PRep.setPc {w : World} {L : PL} {m : Mt} (R : PRep w L m) (t h g : Nat) (ht : t < m.T) (hh : h < 4) (hg : g < 4) (x : Int) : PRep (w.setCell ⟨L.ab, t * 17 + 1 + h * 4 + g, none⟩ (.int .i64 x)) L (m.setPc t h g x) := by
  refine R.setAb ((Kep.refl (fun b => b = L.ab) w).setCell (p := ⟨L.ab, t * 17 + 1 + h * 4 + g, none⟩) (.inl rfl) _) _ _ (fun t' ht' => (R.mo t' ht').set_other (by intro q; injection q with _ q _; exact off_mo_pc hh hg q.symm) rfl rfl _) (fun t' h' g' ht' hh' hg' => ?_)
  by_cases e : t' = t ∧ h' = h ∧ g' = g
  · obtain ⟨rfl, rfl, rfl⟩ := e
    simpa using (R.pc t' h' g' ht hh hg).set rfl (.int .i64 x)
  · have := (R.pc t' h' g' ht' hh' hg').set_other (q := ⟨L.ab, t * 17 + 1 + h * 4 + g, none⟩) (by intro q; injection q with _ q _; exact e (off_pc hh' hg' hh hg q)) rfl rfl (.int .i64 x)
    simpa [e] using this

/-- What a call on the program's market leaves. -/
structure PPost (w : World) (L : PL) (m m' : Mt) (w' : World) : Prop where
  kp : Kep (L.S m) w w'
  rep : ∃ L', (L'.x = L.x ∧ L'.rb = L.rb ∧ L'.bb = L.bb) ∧ (∀ b, L'.S m' b → L.S m b ∨ w.heap.size ≤ b) ∧ PRep w' L' m'

theorem PPost.same {w w' : World} {L : PL} {m : Mt} (R : PRep w L m) (k : Kep non w w') : PPost w L m m w' := ⟨k.none, L, ⟨rfl, rfl, rfl⟩, fun _ hb => .inl hb, R.later k⟩

theorem PPost.mo {w w1 : World} {L : PL} {m : Mt} (R : PRep w L m) (K : Kep non w w1) (k : Nat) (hk : k < m.T) (x : Int) : PPost w L m (m.setMo k x) (w1.setCell ⟨L.ab, k * 17, none⟩ (.int .i64 x)) :=
  ⟨(K.none (S := L.S m)).setCell (p := ⟨L.ab, k * 17, none⟩) (.inl ⟨.ab, rfl⟩) _, L, ⟨rfl, rfl, rfl⟩, fun _ hb => .inl hb, (R.later K).setMo k hk x⟩

theorem PPost.pcs {w w1 : World} {L : PL} {m : Mt} (R : PRep w L m) (K : Kep non w w1) (t h g : Nat) (ht : t < m.T) (hh : h < 4) (hg : g < 4) (x : Int) :
    PPost w L m (m.setPc t h g x) (w1.setCell ⟨L.ab, t * 17 + 1 + h * 4 + g, none⟩ (.int .i64 x)) :=
  ⟨(K.none (S := L.S m)).setCell (p := ⟨L.ab, t * 17 + 1 + h * 4 + g, none⟩) (.inl ⟨.ab, rfl⟩) _, L, ⟨rfl, rfl, rfl⟩, fun _ hb => .inl hb, (R.later K).setPc t h g ht hh hg x⟩

theorem PPost.later {w w1 w2 : World} {L : PL} {m m' : Mt} (h : PPost w L m m' w1) (k : Kep non w1 w2) : PPost w L m m' w2 :=
  ⟨h.kp.trans k.none, by obtain ⟨L', h1, h2, h3⟩ := h.rep; exact ⟨L', h1, h2, h3.later k⟩⟩

/-! ### the small functions -/

theorem within_yes (n a b : Int) (w : World) (h : a ≤ n ∧ n ≤ b) : Calls Try.prog 34 #[.int .i64 n, .int .i64 a, .int .i64 b] w fun e w' => e = .returned (.bool true) ∧ w' = w := by
  obtain ⟨h1, h2⟩ := h
  go_enter Try.func34, Try.ntmps34
  go_wp2
  go_ret
  exact ⟨by simp, rfl⟩
theorem within_no (n a b : Int) (w : World) (h : ¬ (a ≤ n ∧ n ≤ b)) : Calls Try.prog 34 #[.int .i64 n, .int .i64 a, .int .i64 b] w fun e w' => e = .returned (.bool false) ∧ w' = w := by
  go_enter Try.func34, Try.ntmps34
  go_wp2
  all_goals go_ret
  all_goals refine ⟨?_, rfl⟩
  all_goals simp
  all_goals omega
theorem within_b (n a b : Int) (w : World) : Calls Try.prog 34 #[.int .i64 n, .int .i64 a, .int .i64 b] w fun e w' => e = .returned (.bool (inR n a b)) ∧ w' = w := by
  cases h : inR n a b
  · exact within_no n a b w (of_decide_eq_false h)
  · exact within_yes n a b w (of_decide_eq_true h)

theorem hasTrader_b (w : World) (x ab T cap : Nat) (i : Int) (hT : T ≤ 8) (h0 : w.cell? ⟨x, 2, none⟩ = some (.slice (some ⟨ab, 0, none⟩) T cap)) :
    Calls Try.prog 31 #[.pointer (some ⟨x, 0, none⟩), .int .i64 i] w fun e w' => e = .returned (.bool (inB T i)) ∧ w' = w := by
  have e : Hid (inR i 0 ((T : Int) - 1) = inB T i) := hide (by simp only [inR, inB, okI]; exact decide_eq_decide.2 (by omega))
  go_enter Try.func31, Try.ntmps31
  go_wp2_with (go_at_call 34; refine (within_b _ _ _ _).mono ?_; rintro e w' ⟨rfl, rfl⟩)
  go_ret
  exact ⟨by rw [← e.out]; rfl, rfl⟩

theorem hasHall_b (w : World) (x H cap : Nat) (a : Option Addr) (i : Int) (hT : H ≤ 8) (h0 : w.cell? ⟨x, 1, none⟩ = some (.slice a H cap)) :
    Calls Try.prog 32 #[.pointer (some ⟨x, 0, none⟩), .int .i64 i] w fun e w' => e = .returned (.bool (inB H i)) ∧ w' = w := by
  have e : Hid (inR i 0 ((H : Int) - 1) = inB H i) := hide (by simp only [inR, inB, okI]; exact decide_eq_decide.2 (by omega))
  go_enter Try.func32, Try.ntmps32
  go_wp2_with (go_at_call 34; refine (within_b _ _ _ _).mono ?_; rintro e w' ⟨rfl, rfl⟩)
  go_ret
  exact ⟨by rw [← e.out]; rfl, rfl⟩

theorem hasGood_b (w : World) (x G : Nat) (i : Int) (hT : G ≤ 8) (h0 : w.cell? ⟨x, 0, none⟩ = some (.int .i64 G)) :
    Calls Try.prog 33 #[.pointer (some ⟨x, 0, none⟩), .int .i64 i] w fun e w' => e = .returned (.bool (inB G i)) ∧ w' = w := by
  have e : Hid (inR i 0 ((G : Int) - 1) = inB G i) := hide (by simp only [inR, inB, okI]; exact decide_eq_decide.2 (by omega))
  go_enter Try.func33, Try.ntmps33
  go_wp2_with (go_at_call 34; refine (within_b _ _ _ _).mono ?_; rintro e w' ⟨rfl, rfl⟩)
  go_ret
  exact ⟨by rw [← e.out]; rfl, rfl⟩
end

/- The program's market: ratesFit, slices.Clone, queue.New, newBooks. -/
section
open Go.RowKit Go.Sort

theorem infoInt : (Try.prog.info? 3).map (fun i => (i.zero, i.size, i.bytes)) = some (some (.int .i64 0), 1, 8) := by kernel_rfl
theorem infoAccount : (Try.prog.info? 85).map (fun i => (i.zero, i.size, i.bytes)) = some (some (.agg #[.int .i64 0, .int .i64 0, .int .i64 0, .int .i64 0, .int .i64 0, .int .i64 0, .int .i64 0, .int .i64 0, .int .i64 0, .int .i64 0, .int .i64 0, .int .i64 0, .int .i64 0, .int .i64 0, .int .i64 0, .int .i64 0, .int .i64 0]), 17, 136) := by kernel_rfl
theorem infoBook : (Try.prog.info? 102).map (fun i => (i.zero, i.size, i.bytes)) = some (some (.agg #[.pointer none, .pointer none, .int .i64 0, .int .i64 0, .int .i64 0]), 5, 40) := by kernel_rfl
theorem infoBooks : (Try.prog.info? 103).map (fun i => (i.zero, i.size, i.bytes)) = some (some (.slice none 0 0), 1, 24) := by kernel_rfl

/-- Whole numbers in a slice. -/
def IntsAt (w : World) (v : Value) (rs : List Int) : Prop :=
  (v = .slice none 0 0 ∧ rs = []) ∨ ∃ b off cap, v = .slice (some ⟨b, off, none⟩) rs.length cap ∧ ∀ i x, rs[i]? = some x → w.cell? ⟨b, off + i, none⟩ = some (.int .i64 x)

theorem IntsAt.form {w : World} {v : Value} {rs : List Int} (h : IntsAt w v rs) : ∃ a c, v = .slice a rs.length c := by
  rcases h with ⟨rfl, rfl⟩ | ⟨b, off, cap, rfl, _⟩
  · exact ⟨_, _, rfl⟩
  · exact ⟨_, _, rfl⟩

theorem IntsAt.kep {w w' : World} {v : Value} {rs : List Int} (h : IntsAt w v rs) (k : Kep non w w') : IntsAt w' v rs := by
  rcases h with h | ⟨b, off, cap, rfl, h⟩
  · exact .inl h
  · exact .inr ⟨b, off, cap, rfl, fun i x hx => k.cell (h i x hx) (fun q => q)⟩

def rateOk (r : Int) : Bool := decide (0 ≤ r) && decide (r ≤ 100)
def fitB (rs : List Int) : Bool := decide (1 ≤ rs.length) && decide (rs.length ≤ 4) && rs.all rateOk
def sizeOk (t g : Int) (rs : List Int) : Bool := inR t 1 8 && inR g 1 4 && fitB rs

theorem all_snoc (rs : List Int) (j : Nat) (hlt : j < rs.length) : (rs.take (j + 1)).all rateOk = ((rs.take j).all rateOk && rateOk rs[j]) := by
  rw [List.take_succ_eq_append_getElem hlt, List.all_append]
  simp only [List.all_cons, List.all_nil, Bool.and_true]
theorem all_split (rs : List Int) (j : Nat) (hj : j < rs.length) (h : rateOk rs[j] = false) : rs.all rateOk = false := by
  rw [List.all_eq_false]
  exact ⟨rs[j], by simp, by simp [h]⟩

set_option maxRecDepth 100000 in
set_option maxHeartbeats 1000000 in
theorem ratesFit_any (w : World) (v : Value) (rs : List Int) (hr : IntsAt w v rs) (hl : rs.length ≤ 1048576) :
    Calls Try.prog 57 #[v] w fun e w' => e = .returned (.bool (fitB rs)) ∧ w' = w := by
  obtain ⟨a, c, rfl⟩ := hr.form
  have HR := hide hr
  clear hr
  by_cases hn : 1 ≤ (rs.length : Int) ∧ (rs.length : Int) ≤ 4
  · have HB : Hid (fitB rs = rs.all rateOk) := hide (by simp only [fitB]; rw [decide_eq_true (by omega), decide_eq_true (by omega)]; simp)
    go_enter Try.func57, Try.ntmps57
    go_wp2_with (go_at_call 34; refine (within_yes _ _ _ _ hn).mono ?_; rintro e w' ⟨rfl, rfl⟩)
    go_loop [11] (fun i => ∃ j : Nat, j ≤ rs.length ∧ i = .int .i64 j ∧ (rs.take j).all rateOk = true) (fun i => rs.length - (intOf i).toNat)
    case atStart => exact ⟨0, Nat.zero_le _, rfl, by simp⟩
    case round =>
      obtain ⟨j, hj, rfl, hal⟩ := hrel
      have HAL := hide hal
      clear hal
      by_cases hlt : j < rs.length
      · have HA := hide (all_snoc rs j hlt)
        have HX := hide (all_split rs j hlt)
        rcases HR.out with ⟨_, h⟩ | ⟨rb, off, cap, h, hc⟩
        · subst h; simp at hlt
        · simp only [Value.slice.injEq, true_and] at h
          obtain ⟨rfl, rfl⟩ := h
          have q := hc j rs[j] (by simp)
          have hq : Hid (rateOk rs[j] = (decide (0 ≤ rs[j]) && decide (rs[j] ≤ 100))) := hide rfl
          clear hc
          generalize rs[j] = x at *
          by_cases hx : 0 ≤ x ∧ x ≤ 100
          · go_wp2_with (go_at_call 34; refine (within_yes _ _ _ _ hx).mono ?_; rintro e w' ⟨rfl, rfl⟩)
            go_round
            case rel => exact ⟨j + 1, by omega, by go_num, by rw [HA.out, HAL.out, hq.out]; simp [hx]⟩
            case measure => simp [intOf]; omega
          · go_wp2_with (go_at_call 34; refine (within_no _ _ _ _ hx).mono ?_; rintro e w' ⟨rfl, rfl⟩)
            go_ret
            refine ⟨?_, rfl⟩
            rw [HB.out, HX.out (by rw [hq.out]; simp; omega)]
            rfl
      · have e1 : j = rs.length := by omega
        subst e1
        go_wp2
        go_ret
        refine ⟨?_, rfl⟩
        have := HAL.out
        rw [List.take_of_length_le (Nat.le_refl _)] at this
        rw [HB.out, this]
        rfl
  · have HB : Hid (fitB rs = false) := hide (by simp only [fitB, Bool.and_eq_false_iff, decide_eq_false_iff_not]; left; omega)
    go_enter Try.func57, Try.ntmps57
    go_wp2_with (go_at_call 34; refine (within_no _ _ _ _ hn).mono ?_; rintro e w' ⟨rfl, rfl⟩)
    go_ret
    exact ⟨by rw [HB.out]; rfl, rfl⟩

theorem ints_news {w : World} {rb off : Nat} {rs : List Int} (h : ∀ i x, rs[i]? = some x → w.cell? ⟨rb, off + i, none⟩ = some (.int .i64 x)) (o : Obj) :
    ∀ j u, (rs.map (Value.int .i64))[j]? = some u → (w.alloc o).cell? ((⟨rb, off, none⟩ : Addr).add j) = some u := by
  intro j u hu
  simp only [List.getElem?_map, Option.map_eq_some_iff] at hu
  obtain ⟨x, hx, rfl⟩ := hu
  have hadd : (⟨rb, off, none⟩ : Addr).add j = ⟨rb, off + j, none⟩ := by unfold Addr.add; split <;> simp_all
  rw [hadd]
  exact cell_later ((Below.refl _ w).alloc (Nat.le_refl _) o) (h j x hx)

theorem ints_one (rs : List Int) : ∀ u, u ∈ rs.map (Value.int .i64) → u.oneCell' = true := by
  intro u hu
  obtain ⟨x, _, rfl⟩ := List.mem_map.1 hu
  rfl

set_option maxRecDepth 100000 in
set_option maxHeartbeats 400000 in
theorem clone_any (w : World) (rb off rc : Nat) (rs : List Int) (hc : ∀ i x, rs[i]? = some x → w.cell? ⟨rb, off + i, none⟩ = some (.int .i64 x)) (n1 : 1 ≤ rs.length) (n4 : rs.length ≤ 4) :
    Calls Try.prog 58 #[.slice (some ⟨rb, off, none⟩) rs.length rc] w fun e w' => ∃ gg cap, e = .returned (.slice (some ⟨gg, 0, none⟩) rs.length cap) ∧ w.heap.size ≤ gg ∧ gg < w'.heap.size ∧ Kep non w w' ∧ ∀ i x, rs[i]? = some x → w'.cell? ⟨gg, i, none⟩ = some (.int .i64 x) := by
  obtain ⟨i0, hi0, hz0, hz1, hz2⟩ := info_parts infoInt
  have HC := hide hc
  clear hc
  have hnil := fun (w : World) (a : Option Addr) (n c : Nat) => Lib.run_eql_slice_nil (P := Try.prog) w 24 3 a n c 0 0 Try.underlying24
  go_enter Try.func58, Try.ntmps58
  go_wp2_with (at_builtin; refine wpList_append_lies _ rfl _ _ _ rfl 0 3 i0 _ 1 8 Try.underlying24 hi0 hz0 hz1 hz2 rfl (by omega) _ 0 [] rfl (by exact World.ownsRow_lit w #[] 0 (Nat.zero_le _) (Nat.zero_le _) rfl) ⟨rb, off, none⟩ rs.length rc (rs.map (.int .i64)) rfl (by simp) (by exact ints_news HC.out _) (ints_one rs) (by omega) (by simp only [maxLen]; omega) (by omega) (by simp) (w.heap.size + 1) (by simp) ?_)
  intro gg cap w1 hown1 hgrow1 hat1 hlt1
  go_wp2
  go_ret
  refine ⟨gg, cap, by simp, ?_, hlt1, ?_, fun i x hx => ?_⟩
  · rcases hat1 with h | h
    · have : w.heap.size = gg := by simpa [Value.ownBlock] using h
      omega
    · omega
  · exact (((Kep.refl _ _).alloc _)).grown hgrow1 (by intro k hk; right; have : w.heap.size = k := (by simpa [Value.ownBlock] using hk); omega)
  · have hi : i < rs.length := (List.getElem?_eq_some_iff.1 hx).1
    rw [hown1.cellAt i (by simp; omega)]
    simp [hx]

set_option maxHeartbeats 400000 in
theorem new_no (w : World) (t g : Int) (v : Value) (rs : List Int) (hr : IntsAt w v rs) (hl : rs.length ≤ 1048576) (hn : sizeOk t g rs = false) :
    Calls Try.prog 27 #[.int .i64 t, .int .i64 g, v] w fun e w' => e = .returned (.tuple #[.pointer none, .int .i64 1]) ∧ w' = w := by
  have HF := hide (ratesFit_any w v rs hr hl)
  unfold sizeOk at hn
  cases h1 : inR t 1 8
  · have i1 := hide h1
    clear hr hn h1
    go_enter Try.func27, Try.ntmps27
    go_wp2_with (first | (go_at_call 34; refine (within_b _ _ _ _).mono ?_; rw [i1.out]; rintro e w' ⟨rfl, rfl⟩))
    go_ret2
    exact ⟨rfl, rfl⟩
  · have i1 := hide h1
    cases h2 : inR g 1 4
    · have i2 := hide h2
      clear hr hn h1 h2
      go_enter Try.func27, Try.ntmps27
      go_wp2_with (first | (go_at_call 34; refine (within_b _ _ _ _).mono ?_; (first | rw [i1.out] | rw [i2.out]); rintro e w' ⟨rfl, rfl⟩))
      go_ret2
      exact ⟨rfl, rfl⟩
    · have i2 := hide h2
      have h3 : fitB rs = false := by rw [h1, h2] at hn; simpa using hn
      rw [h3] at HF
      clear hr hn h1 h2
      go_enter Try.func27, Try.ntmps27
      go_wp2_with (first | (go_at_call 34; refine (within_b _ _ _ _).mono ?_; (first | rw [i1.out] | rw [i2.out]); rintro e w' ⟨rfl, rfl⟩) | (go_at_call 57; refine HF.out.mono ?_; rintro e w' ⟨rfl, rfl⟩))
      go_ret2
      exact ⟨rfl, rfl⟩

theorem queueNew_any (w : World) (n : Nat) :
    Calls Try.prog 77 #[.func (.func n) #[] #[]] w fun e w' => e = .returned (.pointer (some ⟨w.heap.size, 0, none⟩)) ∧ w' = w.alloc (.cells #[.func (.func n) #[] #[], .slice none 0 0] 128) := by
  go_enter Try.func77, Try.ntmps77
  go_wp2
  go_ret
  exact ⟨rfl, rfl⟩
end

end Go.Proofs.Ytcfoobhihhndjaa
