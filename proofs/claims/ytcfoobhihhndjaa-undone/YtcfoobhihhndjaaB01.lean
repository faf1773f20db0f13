/- Worlds that keep all old blocks but those of a list: plain lemmas. -/
import Derived.Maps.AppendAt
import Derived.WalkKit
import Derived.WalkLawsBesides
import Derived.WalkSpells
namespace Go.Proofs.Ytcfoobhihhndjaa

section
open Go.RowKit

theorem hide {p : Prop} (h : p) : Hid p := h

/-- All blocks that were there, but those of S, are as they were. -/
structure Keeps (S : List Nat) (w w' : World) : Prop where
  os : w'.os = w.os
  tape : w'.tape = w.tape
  output : w'.output = w.output
  size : w.heap.size ≤ w'.heap.size
  block : ∀ k, k < w.heap.size → k ∉ S → w'.heap[k]? = w.heap[k]?

theorem Keeps.refl (S : List Nat) (w : World) : Keeps S w w := ⟨rfl, rfl, rfl, Nat.le_refl _, fun _ _ _ => rfl⟩

theorem Keeps.trans' {S S' : List Nat} {a b c : World} (h : Keeps S a b) (k : Keeps S' b c) (hs : ∀ i, i ∈ S' → i ∈ S ∨ a.heap.size ≤ i) : Keeps S a c :=
  ⟨k.os.trans h.os, k.tape.trans h.tape, k.output.trans h.output, Nat.le_trans h.size k.size, fun i hi hn =>
    (k.block i (Nat.lt_of_lt_of_le hi h.size) (fun hm => by rcases hs i hm with h1 | h1; exact hn h1; omega)).trans (h.block i hi hn)⟩

theorem Keeps.trans {S : List Nat} {a b c : World} (h : Keeps S a b) (k : Keeps S b c) : Keeps S a c := h.trans' k fun _ hi => .inl hi

theorem Keeps.mono {S S' : List Nat} {a b : World} (h : Keeps S a b) (hs : ∀ i, i ∈ S → i ∈ S' ∨ a.heap.size ≤ i) : Keeps S' a b :=
  ⟨h.os, h.tape, h.output, h.size, fun i hi hn => h.block i hi fun hm => by rcases hs i hm with h1 | h1; exact hn h1; omega⟩

theorem Keeps.drew {S : List Nat} {a w : World} (h : Keeps S a w) : Keeps S a w.drew := ⟨h.os, h.tape, h.output, h.size, h.block⟩
theorem Keeps.drewN {S : List Nat} {a w : World} (h : Keeps S a w) (n : Nat) : Keeps S a (w.drewN n) := ⟨h.os, h.tape, h.output, h.size, h.block⟩

theorem Keeps.alloc {S : List Nat} {a w : World} (h : Keeps S a w) (o : Obj) : Keeps S a (w.alloc o) :=
  h.trans ⟨rfl, rfl, rfl, by simp, fun k hk _ => Below.heap_alloc _ _ _ hk⟩

theorem Keeps.setCell {S : List Nat} {a w : World} (h : Keeps S a w) {p : Addr} (hp : p.block ∈ S ∨ a.heap.size ≤ p.block) (u : Value) : Keeps S a (w.setCell p u) :=
  h.trans' (S' := [p.block]) ⟨rfl, rfl, rfl, by simp [World.setCell], fun k _ hn => Below.heap_setCell _ _ _ _ (by simpa using hn)⟩ (by simpa using hp)

theorem Keeps.grown {S : List Nat} {a w w' : World} {row : Option Nat} (h : Keeps S a w) (hg : w.grownBy w' row) (hr : ∀ k, row = some k → k ∈ S ∨ a.heap.size ≤ k) : Keeps S a w' :=
  h.trans' (S' := row.toList) ⟨hg.os, hg.tape, hg.output, hg.size, fun k hk hn => hg.block k hk (fun e => hn (by rw [← e]; simp))⟩ (by intro i hi; cases row with | none => simp at hi | some k => simp at hi; subst hi; exact hr i rfl)

theorem Keeps.of_below {S : List Nat} {w w' : World} (h : Below w.heap.size w w') : Keeps S w w' := ⟨h.os, h.tape, h.output, h.size, fun k hk _ => h.block k hk⟩

theorem Keeps.below {w w' : World} {B : Nat} {S : List Nat} (h : Keeps S w w') (hB : B ≤ w.heap.size) (hS : ∀ k, k ∈ S → B ≤ k) : Below B w w' :=
  ⟨h.os, h.tape, h.output, h.size, fun k hk => h.block k (by omega) (fun hm => by have := hS k hm; omega)⟩

theorem Keeps.cell {S : List Nat} {w w' : World} (h : Keeps S w w') {p : Addr} {v : Value} (hc : w.cell? p = some v) (hp : p.block ∉ S) : w'.cell? p = some v :=
  (World.cell?_of_block (h.block p.block (World.block_lt_of_cell? w p hc) hp)).trans hc

theorem Keeps.frozen {S : List Nat} {w w' : World} (h : Keeps S w w') {p : Addr} {v : Value} (hc : w.cell? p = some v) (hp : p.block ∉ S) : w'.frozen? p = w.frozen? p :=
  World.frozen?_of_block (h.block p.block (World.block_lt_of_cell? w p hc) hp)

/-- a cell that may be written -/
structure Own (w : World) (p : Addr) (v : Value) : Prop where
  cell : w.cell? p = some v
  free : w.frozen? p = false

theorem Own.lt {w : World} {p : Addr} {v : Value} (h : Own w p v) : p.block < w.heap.size := World.block_lt_of_cell? w p h.cell

theorem Own.keep {S : List Nat} {w w' : World} {p : Addr} {v : Value} (h : Own w p v) (k : Keeps S w w') (hp : p.block ∉ S) : Own w' p v :=
  ⟨k.cell h.cell hp, (k.frozen h.cell hp).trans h.free⟩

theorem Own.set {w : World} {p : Addr} {v : Value} (h : Own w p v) (hs : p.spot = none) (u : Value) : Own (w.setCell p u) p u := by
  obtain ⟨b, o, s⟩ := p
  subst hs
  have hc := h.cell
  have hf := h.free
  constructor
  · simp only [World.cell?, World.setCell, Array.getElem?_modify] at hc ⊢
    cases hb : w.heap[b]? with
    | none => rw [hb] at hc; simp at hc
    | some ob =>
      rw [hb] at hc
      cases ob <;> simp_all
      rename_i c _ _
      rw [Array.getElem?_setIfInBounds_self]
      have : o < c.size := by have := (Array.getElem?_eq_some_iff.1 hc).1; exact this
      simp [this]
  · simp only [World.frozen?, World.setCell, Array.getElem?_modify] at hf ⊢
    cases hb : w.heap[b]? with
    | none => simp
    | some ob =>
      rw [hb] at hf
      cases ob <;> simp_all

theorem Own.set_other {w : World} {p q : Addr} {v : Value} (h : Own w p v) (hs : p ≠ q) (h1 : p.spot = none) (h2 : q.spot = none) (u : Value) : Own (w.setCell q u) p v := by
  obtain ⟨b, o, s⟩ := p
  obtain ⟨b', o', s'⟩ := q
  subst h1
  subst h2
  have hc := h.cell
  have hf := h.free
  by_cases e : b = b'
  · subst e
    have ho : o ≠ o' := fun e => hs (by rw [e])
    constructor
    · simp only [World.cell?, World.setCell, Array.getElem?_modify] at hc ⊢
      cases hb : w.heap[b]? with
      | none => rw [hb] at hc; simp at hc
      | some ob =>
        rw [hb] at hc
        cases ob <;> simp_all
        rw [Array.getElem?_setIfInBounds_ne (Ne.symm ho)]
        exact hc
    · simp only [World.frozen?, World.setCell, Array.getElem?_modify] at hf ⊢
      cases hb : w.heap[b]? with
      | none => simp
      | some ob =>
        rw [hb] at hf
        cases ob <;> simp_all
  · have := Below.heap_setCell w ⟨b', o', none⟩ u b e
    exact ⟨(World.cell?_of_block (a := ⟨b, o, none⟩) this).trans hc, (World.frozen?_of_block (a := ⟨b, o, none⟩) this).trans hf⟩
end

/- Worlds that keep all old blocks but those of which a word holds. -/
section
open Go.RowKit

/-- All blocks that were there, but those of which S holds, are as they were. -/
structure Kep (S : Nat → Prop) (w w' : World) : Prop where
  os : w'.os = w.os
  tape : w'.tape = w.tape
  output : w'.output = w.output
  size : w.heap.size ≤ w'.heap.size
  block : ∀ k, k < w.heap.size → ¬ S k → w'.heap[k]? = w.heap[k]?

def non : Nat → Prop := fun _ => False

theorem Kep.refl (S : Nat → Prop) (w : World) : Kep S w w := ⟨rfl, rfl, rfl, Nat.le_refl _, fun _ _ _ => rfl⟩

theorem Kep.trans' {S S' : Nat → Prop} {a b c : World} (h : Kep S a b) (k : Kep S' b c) (hs : ∀ i, S' i → S i ∨ a.heap.size ≤ i) : Kep S a c :=
  ⟨k.os.trans h.os, k.tape.trans h.tape, k.output.trans h.output, Nat.le_trans h.size k.size, fun i hi hn =>
    (k.block i (Nat.lt_of_lt_of_le hi h.size) (fun hm => by rcases hs i hm with h1 | h1; exact hn h1; omega)).trans (h.block i hi hn)⟩

theorem Kep.trans {S : Nat → Prop} {a b c : World} (h : Kep S a b) (k : Kep S b c) : Kep S a c := h.trans' k fun _ hi => .inl hi

theorem Kep.mono {S S' : Nat → Prop} {a b : World} (h : Kep S a b) (hs : ∀ i, S i → S' i ∨ a.heap.size ≤ i) : Kep S' a b :=
  ⟨h.os, h.tape, h.output, h.size, fun i hi hn => h.block i hi fun hm => by rcases hs i hm with h1 | h1; exact hn h1; omega⟩

theorem Kep.none {S : Nat → Prop} {a b : World} (h : Kep non a b) : Kep S a b := h.mono fun _ q => q.elim

theorem Kep.drew {S : Nat → Prop} {a w : World} (h : Kep S a w) : Kep S a w.drew := ⟨h.os, h.tape, h.output, h.size, h.block⟩
theorem Kep.drewN {S : Nat → Prop} {a w : World} (h : Kep S a w) (n : Nat) : Kep S a (w.drewN n) := ⟨h.os, h.tape, h.output, h.size, h.block⟩

theorem Kep.alloc {S : Nat → Prop} {a w : World} (h : Kep S a w) (o : Obj) : Kep S a (w.alloc o) :=
  h.trans ⟨rfl, rfl, rfl, by simp, fun k hk _ => Below.heap_alloc _ _ _ hk⟩

theorem Kep.setCell {S : Nat → Prop} {a w : World} (h : Kep S a w) {p : Addr} (hp : S p.block ∨ a.heap.size ≤ p.block) (u : Value) : Kep S a (w.setCell p u) :=
  h.trans' (S' := fun b => b = p.block) ⟨rfl, rfl, rfl, by simp [World.setCell], fun k _ hn => Below.heap_setCell _ _ _ _ hn⟩ (fun i q => by subst q; exact hp)

theorem Kep.grown {S : Nat → Prop} {a w w' : World} {row : Option Nat} (h : Kep S a w) (hg : w.grownBy w' row) (hr : ∀ k, row = some k → S k ∨ a.heap.size ≤ k) : Kep S a w' :=
  h.trans' (S' := fun b => row = some b) ⟨hg.os, hg.tape, hg.output, hg.size, fun k hk hn => hg.block k hk (fun e => hn e.symm)⟩ (fun i q => hr i q)

theorem Kep.of_below {S : Nat → Prop} {w w' : World} (h : Below w.heap.size w w') : Kep S w w' := ⟨h.os, h.tape, h.output, h.size, fun k hk _ => h.block k hk⟩

theorem Kep.below {w w' : World} {B : Nat} {S : Nat → Prop} (h : Kep S w w') (hB : B ≤ w.heap.size) (hS : ∀ k, S k → B ≤ k) : Below B w w' :=
  ⟨h.os, h.tape, h.output, h.size, fun k hk => h.block k (by omega) (fun hm => by have := hS k hm; omega)⟩

theorem Kep.bel {w w' : World} (h : Kep non w w') : Below w.heap.size w w' := h.below (Nat.le_refl _) fun _ q => q.elim

theorem Kep.cell {S : Nat → Prop} {w w' : World} (h : Kep S w w') {p : Addr} {v : Value} (hc : w.cell? p = some v) (hp : ¬ S p.block) : w'.cell? p = some v :=
  (World.cell?_of_block (h.block p.block (World.block_lt_of_cell? w p hc) hp)).trans hc

theorem Kep.frozen {S : Nat → Prop} {w w' : World} (h : Kep S w w') {p : Addr} {v : Value} (hc : w.cell? p = some v) (hp : ¬ S p.block) : w'.frozen? p = w.frozen? p :=
  World.frozen?_of_block (h.block p.block (World.block_lt_of_cell? w p hc) hp)

theorem Own.kep {S : Nat → Prop} {w w' : World} {p : Addr} {v : Value} (h : Own w p v) (k : Kep S w w') (hp : ¬ S p.block) : Own w' p v :=
  ⟨k.cell h.cell hp, (k.frozen h.cell hp).trans h.free⟩

/-- a block of cells, none of them frozen -/
def Plain (w : World) (b : Nat) : Prop := ∃ cs t, w.heap[b]? = some (.cells cs t (0, 0))

theorem Plain.lt {w : World} {b : Nat} (h : Plain w b) : b < w.heap.size := by
  obtain ⟨cs, t, e⟩ := h
  exact (Array.getElem?_eq_some_iff.1 e).1

theorem Plain.kep {S : Nat → Prop} {w w' : World} {b : Nat} (h : Plain w b) (k : Kep S w w') (hp : ¬ S b) : Plain w' b := by
  have l := h.lt
  obtain ⟨cs, t, e⟩ := h
  exact ⟨cs, t, (k.block b l hp).trans e⟩

theorem Plain.set {w : World} {b : Nat} (h : Plain w b) (p : Addr) (u : Value) : Plain (w.setCell p u) b := by
  by_cases q : b = p.block
  · obtain ⟨cs, t, e⟩ := h
    subst q
    rcases p with ⟨k, o, s⟩
    simp only [World.setCell, Plain, Array.getElem?_modify]
    simp only at e
    rw [e]
    cases s <;> exact ⟨_, _, rfl⟩
  · obtain ⟨cs, t, e⟩ := h
    exact ⟨cs, t, (Below.heap_setCell _ _ _ _ q).trans e⟩

theorem ownsRow_kep {S : Nat → Prop} {w w' : World} {B : Nat} {e : TypeId} {z : Nat} {v : Value} {n : Nat} {xs : List Value} (h : w.ownsRow B e z v n xs) (k : Kep S w w') (hs : ∀ b, v.ownBlock = some b → ¬ S b) : w'.ownsRow B e z v n xs := by
  refine ⟨h.1, ?_⟩
  rcases h.2 with q | ⟨g, cap, cur, e1, e2, e3, e4⟩
  · exact .inl q
  · refine .inr ⟨g, cap, cur, e1, e2, ?_, e4⟩
    have hlt : g < w.heap.size := (Array.getElem?_eq_some_iff.1 e3).1
    rw [k.block g hlt (hs g (by rw [e1]; rfl))]
    exact e3
end

/- The plain market, with orders that wait. -/
section
/-- An order: number, trader, hall, good, side (0: to buy, 1: to sell), price, pieces left, how. -/
structure Od where
  id : Int
  t : Int
  h : Int
  g : Int
  s : Int
  p : Int
  q : Int
  w : Int

def Od.cells (o : Od) : List Value := [.int .i64 o.id, .int .i64 o.t, .int .i64 o.h, .int .i64 o.g, .int .i64 o.s, .int .i64 o.p, .int .i64 o.q, .int .i64 o.w]

/-- A load: trader, to, good, pieces, due. -/
structure Lo where
  t : Int
  h : Int
  g : Int
  n : Int
  d : Int

def Lo.cells (l : Lo) : List Value := [.int .i64 l.t, .int .i64 l.h, .int .i64 l.g, .int .i64 l.n, .int .i64 l.d]

/-- The market: so many traders, goods, halls; rates; free money; free pieces by trader, hall, good; loads; what waits by hall, good, side, in order; of each hall and good the last price, pieces, amounts; numbers given; the house; the time. -/
structure Mt where
  T : Nat
  G : Nat
  H : Nat
  rt : Nat → Int
  mo : Nat → Int
  pc : Nat → Nat → Nat → Int
  ld : List Lo
  bk : Nat → Nat → Nat → List Od
  la : Nat → Nat → Int
  pi : Nat → Nat → Int
  am : Nat → Nat → Int
  nu : Int
  ho : Int
  tm : Int

section
variable {α : Type}
/-- a family of lists by hall, good, side, one behind the other -/
def two (f : Nat → List α) : List α := f 0 ++ f 1
def upG (f : Nat → Nat → List α) : Nat → List α
  | 0 => []
  | g + 1 => upG f g ++ two (f g)
def upH (G : Nat) (f : Nat → Nat → Nat → List α) : Nat → List α
  | 0 => []
  | h + 1 => upH G f h ++ upG (f h) G
end

def Mt.all (m : Mt) : List Od := upH m.G m.bk m.H

/-- what is held of a trader's money -/
def heldL (t : Int) : List Od → Int
  | [] => 0
  | o :: r => (if o.t = t ∧ o.s = 0 then o.p * o.q else 0) + heldL t r
def Mt.held (m : Mt) (t : Int) : Int := heldL t m.all
/-- what is held of a trader's pieces, in one queue -/
def keptL (t : Int) : List Od → Int
  | [] => 0
  | o :: r => (if o.t = t then o.q else 0) + keptL t r
def Mt.kept (m : Mt) (t : Int) (h g : Nat) : Int := keptL t (m.bk h g 1)
/-- what is under way -/
def comeL (t h g : Int) : List Lo → Int
  | [] => 0
  | l :: r => (if l.t = t ∧ l.h = h ∧ l.g = g then l.n else 0) + comeL t h g r
def Mt.come (m : Mt) (t h g : Int) : Int := comeL t h g m.ld

theorem heldL_append (t : Int) (a b : List Od) : heldL t (a ++ b) = heldL t a + heldL t b := by
  induction a with
  | nil => simp [heldL]
  | cons x a ih => simp only [List.cons_append, heldL, ih]; omega
theorem keptL_append (t : Int) (a b : List Od) : keptL t (a ++ b) = keptL t a + keptL t b := by
  induction a with
  | nil => simp [keptL]
  | cons x a ih => simp only [List.cons_append, keptL, ih]; omega
theorem comeL_append (t h g : Int) (a b : List Lo) : comeL t h g (a ++ b) = comeL t h g a + comeL t h g b := by
  induction a with
  | nil => simp [comeL]
  | cons x a ih => simp only [List.cons_append, comeL, ih]; omega

/-- an order that may wait -/
structure Od.Ok (m : Mt) (h g s : Nat) (o : Od) : Prop where
  id : 1 ≤ o.id ∧ o.id ≤ m.nu
  t : 0 ≤ o.t ∧ o.t < m.T
  h : o.h = h
  g : o.g = g
  s : o.s = s
  p : 1 ≤ o.p ∧ o.p ≤ 100000
  q : 1 ≤ o.q ∧ o.q ≤ 10000
  w : 0 ≤ o.w ∧ o.w ≤ 3

/-- a market that may be (N: a bound on pieces, on what was traded, on numbers) -/
structure Mt.Ok (m : Mt) (N : Int) : Prop where
  bN : N ≤ 1000000000000
  T1 : 1 ≤ m.T
  T8 : m.T ≤ 8
  G1 : 1 ≤ m.G
  G4 : m.G ≤ 4
  H1 : 1 ≤ m.H
  H4 : m.H ≤ 4
  rt : ∀ h, h < m.H → 0 ≤ m.rt h ∧ m.rt h ≤ 100
  mo : ∀ t, t < m.T → 0 ≤ m.mo t ∧ m.mo t ≤ 1000000000000
  pc : ∀ t h g, t < m.T → h < m.H → g < m.G → 0 ≤ m.pc t h g ∧ m.pc t h g ≤ N
  l20 : m.ld.length ≤ 20
  ld : ∀ l, l ∈ m.ld → (0 ≤ l.t ∧ l.t < m.T) ∧ (0 ≤ l.h ∧ l.h < m.H) ∧ (0 ≤ l.g ∧ l.g < m.G) ∧ (1 ≤ l.n ∧ l.n ≤ 10000) ∧ (0 ≤ l.d ∧ l.d ≤ 1000000010)
  a60 : m.all.length ≤ 60
  od : ∀ h g s o, h < m.H → g < m.G → s < 2 → o ∈ m.bk h g s → o.Ok m h g s
  nu : 0 ≤ m.nu ∧ m.nu ≤ N
  ho : 0 ≤ m.ho ∧ m.ho ≤ 1000000000000
  tm : 0 ≤ m.tm ∧ m.tm ≤ 1000000000

theorem mem_upG {α : Type} {f : Nat → Nat → List α} {G : Nat} {x : α} : x ∈ upG f G ↔ ∃ g s, g < G ∧ s < 2 ∧ x ∈ f g s := by
  induction G with
  | zero => simp [upG]
  | succ k ih =>
    simp only [upG, two, List.mem_append, ih]
    constructor
    · rintro (⟨g, s, h1, h2, h3⟩ | h | h)
      · exact ⟨g, s, by omega, h2, h3⟩
      · exact ⟨k, 0, by omega, by omega, h⟩
      · exact ⟨k, 1, by omega, by omega, h⟩
    · rintro ⟨g, s, h1, h2, h3⟩
      by_cases e : g = k
      · subst e
        rcases s with _ | _ | s
        · exact .inr (.inl h3)
        · exact .inr (.inr h3)
        · omega
      · exact .inl ⟨g, s, by omega, h2, h3⟩
theorem mem_upH {α : Type} {f : Nat → Nat → Nat → List α} {G H : Nat} {x : α} : x ∈ upH G f H ↔ ∃ h g s, h < H ∧ g < G ∧ s < 2 ∧ x ∈ f h g s := by
  induction H with
  | zero => simp [upH]
  | succ k ih =>
    simp only [upH, List.mem_append, ih, mem_upG]
    constructor
    · rintro (⟨h, g, s, h0, h1, h2, h3⟩ | ⟨g, s, h1, h2, h3⟩)
      · exact ⟨h, g, s, by omega, h1, h2, h3⟩
      · exact ⟨k, g, s, by omega, h1, h2, h3⟩
    · rintro ⟨h, g, s, h0, h1, h2, h3⟩
      by_cases e : h = k
      · subst e
        exact .inr ⟨g, s, h1, h2, h3⟩
      · exact .inl ⟨h, g, s, by omega, h1, h2, h3⟩

theorem Mt.mem_all {m : Mt} {o : Od} : o ∈ m.all ↔ ∃ h g s, h < m.H ∧ g < m.G ∧ s < 2 ∧ o ∈ m.bk h g s := mem_upH

/-- an order somewhere in the book, within bounds -/
theorem Mt.Ok.all_ok {m : Mt} {N : Int} (h : m.Ok N) {o : Od} (ho : o ∈ m.all) : (0 ≤ o.t ∧ o.t < 8) ∧ (0 ≤ o.s ∧ o.s ≤ 1) ∧ (1 ≤ o.p ∧ o.p ≤ 100000) ∧ (1 ≤ o.q ∧ o.q ≤ 10000) := by
  obtain ⟨a, b, s, h1, h2, h3, h4⟩ := Mt.mem_all.1 ho
  have k := h.od a b s o h1 h2 h3 h4
  have := h.T8
  have := k.t
  have := k.s
  exact ⟨by omega, by omega, k.p, k.q⟩

theorem mul_le' {a b A B : Int} (h0 : 0 ≤ a) (h1 : a ≤ A) (h2 : 0 ≤ b) (h3 : b ≤ B) : 0 ≤ a * b ∧ a * b ≤ A * B :=
  ⟨Int.mul_nonneg h0 h2, Int.mul_le_mul h1 h3 h2 (Int.le_trans h0 h1)⟩

theorem heldL_bd (t : Int) : ∀ l : List Od, (∀ o ∈ l, (1 ≤ o.p ∧ o.p ≤ 100000) ∧ (1 ≤ o.q ∧ o.q ≤ 10000)) → 0 ≤ heldL t l ∧ heldL t l ≤ 1000000000 * (l.length : Int)
  | [], _ => by simp [heldL]
  | o :: r, h => by
    have ih := heldL_bd t r (fun x hx => h x (List.mem_cons_of_mem _ hx))
    obtain ⟨hp, hq⟩ := h o List.mem_cons_self
    have := mul_le' (a := o.p) (b := o.q) (A := 100000) (B := 10000) (by omega) hp.2 (by omega) hq.2
    simp only [heldL, List.length_cons]
    split <;> omega

theorem keptL_bd (t : Int) : ∀ l : List Od, (∀ o ∈ l, 1 ≤ o.q ∧ o.q ≤ 10000) → 0 ≤ keptL t l ∧ keptL t l ≤ 10000 * (l.length : Int)
  | [], _ => by simp [keptL]
  | o :: r, h => by
    have ih := keptL_bd t r (fun x hx => h x (List.mem_cons_of_mem _ hx))
    have hq := h o List.mem_cons_self
    simp only [keptL, List.length_cons]
    split <;> omega

theorem comeL_bd (t h g : Int) : ∀ l : List Lo, (∀ o ∈ l, 1 ≤ o.n ∧ o.n ≤ 10000) → 0 ≤ comeL t h g l ∧ comeL t h g l ≤ 10000 * (l.length : Int)
  | [], _ => by simp [comeL]
  | o :: r, h' => by
    have ih := comeL_bd t h g r (fun x hx => h' x (List.mem_cons_of_mem _ hx))
    have hq := h' o List.mem_cons_self
    simp only [comeL, List.length_cons]
    split <;> omega
end

end Go.Proofs.Ytcfoobhihhndjaa
