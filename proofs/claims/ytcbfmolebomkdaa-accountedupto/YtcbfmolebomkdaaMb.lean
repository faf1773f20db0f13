/- The law: what holds between the steps of a script. -/
import Derived.Test.YtcbfmolebomkdaaLz
import Derived.Test.YtcbfmolebomkdaaMa
namespace Go.Proofs.Ytcbfmolebomkdaa
open Go.RowKit

def hop (kd A B C D : Int) (rv : Value) : OpV := ⟨kd, 0, A, B, C, D, 0, rv, 0, 0, 0, 0, 0, 0, 0, 0⟩
def headOp (rb : Nat) : Nat → OpV
  | 0 => hop 1 4 2 0 0 (.slice (some ⟨rb, 0, none⟩) 3 3)
  | 1 => hop 2 0 500000 0 0 (.slice none 0 0)
  | 2 => hop 2 1 300000 0 0 (.slice none 0 0)
  | 3 => hop 4 1 0 1 500 (.slice none 0 0)
  | 4 => hop 4 2 1 0 900 (.slice none 0 0)
  | 5 => hop 4 2 0 1 300 (.slice none 0 0)
  | _ => hop 6 1 0 0 0 (.slice none 0 0)

theorem headCells_at (rb k j : Nat) (hk : k < 7) (hj : j < 16) : (headCells rb)[k * 16 + j]? = (headOp rb k).cells[j]? := by
  rcases k with _ | _ | _ | _ | _ | _ | _ | k
  case succ.succ.succ.succ.succ.succ.succ => omega
  all_goals
    rcases j with _ | _ | _ | _ | _ | _ | _ | _ | _ | _ | _ | _ | _ | _ | _ | _ | j
    case succ.succ.succ.succ.succ.succ.succ.succ.succ.succ.succ.succ.succ.succ.succ.succ => omega
    all_goals rfl

theorem headOp_other (rb k : Nat) (hk : k ≠ 0) : (headOp rb k).rv = .slice none 0 0 ∧ (headOp rb k).kd ≠ 1 ∧ (headOp rb k).kd ≤ 8 ∧ (headOp rb k).M = 0 := by
  rcases k with _ | _ | _ | _ | _ | _ | k
  case zero => exact absurd rfl hk
  all_goals exact ⟨rfl, by simp [headOp, hop], by simp [headOp, hop], rfl⟩

/-- behind k steps of head -/
def HSt (w : World) (B0 p hb rb k : Nat) (wr : World) : Prop :=
  ∃ s, Inv B0 p (200000 * (k : Int)) s wr ∧ (k = 0 → s.n = 0) ∧ (k ≠ 0 → s.n = 1) ∧ s.al.length ≤ k ∧ s.es.length ≤ k ∧ Below B0 w wr ∧ Dead s p hb ∧ Dead s p rb ∧
    (∀ j v, (headCells rb)[j]? = some v → wr.cell? ⟨hb, j, none⟩ = some v) ∧ (∀ j v, [Value.int .i64 50, .int .i64 0, .int .i64 100][j]? = some v → wr.cell? ⟨rb, j, none⟩ = some v)

theorem HSt.cell {w wr : World} {B0 p hb rb k : Nat} (h : HSt w B0 p hb rb k wr) (hk : k < 7) (j : Nat) (u : Value) (hu : (headOp rb k).cells[j]? = some u) : wr.cell? ⟨hb, k * 16 + j, none⟩ = some u := by
  obtain ⟨s, _, _, _, _, _, _, _, _, hc, _⟩ := h
  refine hc _ _ ?_
  rw [headCells_at rb k j hk (by have := (Array.getElem?_eq_some_iff.1 hu).1; simpa [OpV.cells] using this)]
  exact hu

theorem HSt.next {a d : Nat} {w wr w' : World} {B0 p hb rb k : Nat} {s : St} (hk : k < 7) (hd : k = 0 → a = 1 ∧ d = 1) (hd' : k ≠ 0 → a = 0 ∧ d = 0) (h0 : k = 0 → s.n = 0) (h1 : k ≠ 0 → s.n = 1) (hal : s.al.length ≤ k) (hes : s.es.length ≤ k) (hB : Below B0 w wr) (dh : Dead s p hb) (dr : Dead s p rb)
    (ch : ∀ j v, (headCells rb)[j]? = some v → wr.cell? ⟨hb, j, none⟩ = some v) (cr : ∀ j v, [Value.int .i64 50, .int .i64 0, .int .i64 100][j]? = some v → wr.cell? ⟨rb, j, none⟩ = some v)
    (P : StepPost a d wr B0 p (200000 * (k : Int)) s w') : HSt w B0 p hb rb (k + 1) w' := by
  obtain ⟨s', i1, i2, i3, i4, i5, i6, i7⟩ := P
  have lh : hb < wr.heap.size := World.block_lt_of_cell? wr ⟨hb, 0, none⟩ (ch 0 _ rfl)
  have lr : rb < wr.heap.size := World.block_lt_of_cell? wr ⟨rb, 0, none⟩ (cr 0 _ rfl)
  have e : (200000 * (k : Int) + 200000) = 200000 * ((k + 1 : Nat) : Int) := by omega
  rw [e] at i1
  refine ⟨s', i1, by omega, fun _ => ?_, by omega, by omega, hB.trans i6, (i7 hb lh dh).2, (i7 rb lr dr).2, fun j v q => ?_, fun j v q => ?_⟩
  · by_cases e : k = 0
    · have := hd e; have := h0 e; omega
    · have := hd' e; have := h1 e; omega
  · exact (World.cell?_of_block (i7 hb lh dh).1).trans (ch j v q)
  · exact (World.cell?_of_block (i7 rb lr dr).1).trans (cr j v q)

theorem HSt.step {w wr : World} {B0 p hb rb k : Nat} (h : HSt w B0 p hb rb k wr) (hk : k < 7) :
    Calls Try.prog 6 #[.pointer (some ⟨p, 0, none⟩), .agg (headOp rb k).cells] wr fun e w' => e = .returned (.bool true) ∧ HSt w B0 p hb rb (k + 1) w' := by
  obtain ⟨s, h1, h2, h3, h4, h5, h6, h7, h8, h9, h10⟩ := h
  by_cases e : k = 0
  · subst e
    have n0 := h2 rfl
    refine (step_on1_yes wr B0 p _ s (headOp rb 0) rb 0 3 [50, 0, 100] rfl (fun i x q => ?_) (by simp) (by rfl) h1 (by omega) (by omega) (by omega) (by omega) rfl).mono ?_
    · rw [Nat.zero_add]
      refine h10 i _ ?_
      rcases i with _ | _ | _ | i
      · simp at q; subst q; rfl
      · simp at q; subst q; rfl
      · simp at q; subst q; rfl
      · simp at q
    · rintro e w' ⟨rfl, P⟩
      exact ⟨rfl, HSt.next hk (fun _ => ⟨rfl, rfl⟩) (fun q => absurd rfl q) h2 h3 h4 h5 h6 h7 h8 h9 h10 P⟩
  · obtain ⟨g1, g2, g3, g4⟩ := headOp_other rb k e
    have n1 := h3 e
    refine (step_other wr B0 p _ s (headOp rb k) (.inl g1) h1 (by omega) (by omega) (by omega) (by rw [g4]; omega) g3 g2).mono ?_
    rintro e' w' ⟨rfl, P⟩
    exact ⟨rfl, HSt.next hk (fun q => absurd q e) (fun _ => ⟨rfl, rfl⟩) h2 h3 h4 h5 h6 h7 h8 h9 h10 P⟩

/-- behind head and k steps of the script -/
def SSt (w : World) (B0 p k : Nat) (wr : World) : Prop :=
  ∃ s, Inv B0 p (200000 * ((7 + k : Nat) : Int)) s wr ∧ 1 ≤ s.n ∧ s.n ≤ k + 1 ∧ s.al.length ≤ 7 + k ∧ s.es.length ≤ 7 + k ∧ Below B0 w wr

theorem HSt.done {w wr : World} {B0 p hb rb : Nat} (h : HSt w B0 p hb rb 7 wr) : SSt w B0 p 0 wr ∧ ∃ a c, wr.cell? ⟨p, 0, none⟩ = some (.slice a 1 c) := by
  obtain ⟨s, h1, h2, h3, h4, h5, h6, h7, h8, h9, h10⟩ := h
  have n1 := h3 (by omega)
  refine ⟨⟨s, h1, by omega, by omega, by omega, by omega, h6⟩, ?_⟩
  obtain ⟨pb, pc, hpv, _, _⟩ := h1.rps.form (by omega)
  refine ⟨some ⟨pb, 0, none⟩, pc, ?_⟩
  rw [h1.c0.cell, hpv, n1]

theorem SSt.next {a d : Nat} {w wr w' : World} {B0 p k : Nat} {s : St} (hd : d ≤ 1) (h1 : 1 ≤ s.n) (h2 : s.n ≤ k + 1) (hal : s.al.length ≤ 7 + k) (hes : s.es.length ≤ 7 + k) (hB : Below B0 w wr) (P : StepPost a d wr B0 p (200000 * ((7 + k : Nat) : Int)) s w') : SSt w B0 p (k + 1) w' := by
  obtain ⟨s', i1, i2, i3, i4, i5, i6, i7⟩ := P
  have e : (200000 * ((7 + k : Nat) : Int) + 200000) = 200000 * ((7 + (k + 1) : Nat) : Int) := by omega
  rw [e] at i1
  exact ⟨s', i1, by omega, by omega, by omega, by omega, hB.trans i6⟩

theorem SSt.step {w wr : World} {B0 p k : Nat} (h : SSt w B0 p k wr) (hk : k ≤ 1048600) (o : OpV) (hrv : RvOk wr o.rv) (hM : -9223372036854775808 ≤ o.M ∧ o.M ≤ 9223372036854775807) (h8 : o.kd ≤ 8) :
    Calls Try.prog 6 #[.pointer (some ⟨p, 0, none⟩), .agg o.cells] wr fun e w' => e = .returned (.bool true) ∧ SSt w B0 p (k + 1) w' := by
  obtain ⟨s, h1, h2, h3, h4, h5, h6⟩ := h
  refine (step_any wr B0 p _ s o hrv h1 (by omega) (by omega) (by omega) (by omega) (by omega) hM h8).mono ?_
  rintro e' w' ⟨rfl, P⟩
  exact ⟨rfl, SSt.next (Nat.le_refl _) h2 h3 h4 h5 h6 P⟩

theorem SSt.skip {w wr : World} {B0 p k : Nat} (h : SSt w B0 p k wr) (hk : k ≤ 1048600) : SSt w B0 p (k + 1) wr := by
  obtain ⟨s, h1, h2, h3, h4, h5, h6⟩ := h
  exact ⟨s, h1.mono (by omega) (by omega), by omega, by omega, by omega, by omega, h6⟩

theorem SSt.whole {w wr : World} {B0 p k : Nat} (h : SSt w B0 p k wr) (hk : k ≤ 1048600) : Calls Try.prog 7 #[.pointer (some ⟨p, 1, none⟩)] wr fun e w' => e = .returned (.bool true) ∧ w' = wr := by
  obtain ⟨s, h1, h2, h3, h4, h5, h6⟩ := h
  exact whole_any (Dead s p) wr p B0 s.av s.ev s.al s.es h1.c1.cell h1.c2.cell h1.c3.cell h1.c4.cell h1.c5.cell h1.ra (by omega) h1.sh h1.re (by omega) h1.ct

theorem SSt.acc {w wr : World} {B0 p k : Nat} (h : SSt w B0 p k wr) (hk : k ≤ 1048600) : ∃ (pb n pc lx rx : Nat), wr.cell? ⟨p, 0, none⟩ = some (.slice (some ⟨pb, 0, none⟩) n pc) ∧ 1 ≤ n ∧ wr.cell? ⟨pb, 0, none⟩ = some (.pointer (some ⟨lx, 0, none⟩)) ∧ wr.cell? ⟨pb, 1, none⟩ = some (.pointer (some ⟨rx, 0, none⟩)) ∧
    Hid (∀ A : Int, Calls Try.prog 8 #[.pointer (some ⟨p, 0, none⟩), .agg #[.pointer (some ⟨lx, 0, none⟩), .pointer (some ⟨rx, 0, none⟩)], .int .i64 A] wr fun e w' => e = .returned (.bool true) ∧ SSt w B0 p (k + 1) w') := by
  obtain ⟨s, h1, h2, h3, h4, h5, h6⟩ := h
  obtain ⟨pb, pc, hpv, _, _⟩ := h1.rps.form h2
  have r := h1.rps
  rw [hpv] at r
  have q := pairCells_at s.L s.R s.n 0 h2
  simp only [Nat.zero_mul, Nat.zero_add] at q
  refine ⟨pb, s.n, pc, (s.L 0).x, (s.R 0).c, by rw [h1.c0.cell, hpv], h2, ?_, ?_, hide fun A => ?_⟩
  · rw [r.cellAt 0 (by omega)]; exact q.1
  · rw [r.cellAt 1 (by omega)]; exact q.2
  · refine (acc_at wr B0 p _ s h1 (by omega) 0 h2 A (by omega) wr (Keeps.refl _ _)).mono ?_
    rintro e' w' ⟨rfl, P⟩
    exact ⟨rfl, SSt.next (Nat.zero_le _) h2 h3 h4 h5 h6 P⟩

def st0 : St := ⟨0, fun _ => ⟨0, 0, 0, 0, .slice none 0 0⟩, fun _ => ⟨0, 0, 0, 0, 0, .slice none 0 0⟩, fun _ => newM 0 0 0, .slice none 0 0, .slice none 0 0, .slice none 0 0, [], []⟩

def playBlock : Obj := .cells #[.slice none 0 0, .slice none 0 0, .slice none 0 0, .slice none 0 0, .slice none 0 0, .slice none 0 0] 35

theorem st0_F {p b : Nat} {ix : Ix} (h : b ∈ st0.F p ix) : ix = .p ∧ b = p := by
  cases ix with
  | p => exact ⟨rfl, by simpa [St.F] using h⟩
  | ps => simp [St.F, st0, Value.ownBlock] at h
  | a => simp [St.F, st0, Value.ownBlock] at h
  | e => simp [St.F, st0, Value.ownBlock] at h
  | x i => simp [St.F, st0] at h
  | c i => simp [St.F, st0] at h

/-- an empty play -/
theorem inv_new (w : World) : Inv w.heap.size w.heap.size 0 st0 (w.alloc playBlock) := by
  have hb : (w.alloc playBlock).heap[w.heap.size]? = some playBlock := heap_alloc_new w _
  have hc : ∀ j, j < 6 → Own (w.alloc playBlock) ⟨w.heap.size, j, none⟩ (.slice none 0 0) := fun j hj => by
    refine ⟨?_, frozen_of_row _ _ j _ _ hb⟩
    rw [cell_of_row _ _ j _ _ _ hb]
    rcases j with _ | _ | _ | _ | _ | _ | j
    all_goals first | rfl | omega
  refine ⟨by simp, hc 0 (by decide), hc 1 (by decide), hc 2 (by decide), hc 3 (by decide), hc 4 (by decide), hc 5 (by decide), ⟨rfl, .inl ⟨rfl, rfl⟩⟩, ⟨rfl, .inl ⟨rfl, rfl⟩⟩, ⟨rfl, .inl ⟨rfl, rfl⟩⟩,
    fun i hi => absurd hi (Nat.not_lt_zero _), fun i hi => absurd hi (Nat.not_lt_zero _), fun i hi => absurd hi (Nat.not_lt_zero _), fun i j b hij h1 h2 => ?_, fun ix b h => ?_, fun i hi => absurd hi (Nat.not_lt_zero _), fun i hi => absurd hi (Nat.not_lt_zero _)⟩
  · exact hij ((st0_F h1).1.trans (st0_F h2).1.symm)
  · exact Nat.le_of_eq (st0_F h).2.symm

theorem HSt.start {w W : World} {hb rb : Nat} (kW : Keeps [] (w.alloc playBlock) W) (h1 : (w.alloc playBlock).heap.size ≤ hb) (h2 : (w.alloc playBlock).heap.size ≤ rb) (ch : ∀ j v, (headCells rb)[j]? = some v → W.cell? ⟨hb, j, none⟩ = some v) (cr : ∀ j v, [Value.int .i64 50, .int .i64 0, .int .i64 100][j]? = some v → W.cell? ⟨rb, j, none⟩ = some v) :
    HSt w w.heap.size w.heap.size hb rb 0 W := by
  have e : (w.alloc playBlock).heap.size = w.heap.size + 1 := by simp
  have h0 : Inv w.heap.size w.heap.size (200000 * ((0 : Nat) : Int)) st0 W := (inv_new w).later kW
  refine ⟨st0, h0, fun _ => rfl, fun q => absurd rfl q, Nat.le_refl _, Nat.le_refl _, (((Keeps.refl [] w).alloc playBlock).trans kW).below (Nat.le_refl _) (by simp), fun ix q => ?_, fun ix q => ?_, ch, cr⟩
  · have := (st0_F q).2; omega
  · have := (st0_F q).2; omega

end Go.Proofs.Ytcbfmolebomkdaa
