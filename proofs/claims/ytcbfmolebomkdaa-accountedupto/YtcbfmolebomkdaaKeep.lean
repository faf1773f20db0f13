/- Worlds that keep all old blocks but those of a list: plain lemmas. -/
import Derived.WalkKit
import Derived.WalkSpells
import Derived.WalkLawsBesides
import Derived.Maps.AppendAt
namespace Go.Proofs.Ytcbfmolebomkdaa
open Go.RowKit

theorem hide {p : Prop} (h : p) : Hid p := h

/-- All blocks that were there, but those of S, are as they were. -/
structure Keeps (S : List Nat) (w w' : World) : Prop where
  os : w'.os = w.os
  tape : w'.tape = w.tape
  output : w'.output = w.output
  size : w.heap.size ≤ w'.heap.size
  block : ∀ k, k < w.heap.size → k ∉ S → w'.heap[k]? = w.heap[k]?

theorem Keeps.refl (S : List Nat) (w : World) : Keeps S w w := ⟨rfl, rfl, rfl, Nat.le_refl _, fun _ _ _ => rfl⟩

theorem Keeps.trans' {S S' : List Nat} {a b c : World} (h : Keeps S a b) (k : Keeps S' b c) (hs : ∀ i, i ∈ S' → i ∈ S ∨ a.heap.size ≤ i) : Keeps S a c :=
  ⟨k.os.trans h.os, k.tape.trans h.tape, k.output.trans h.output, Nat.le_trans h.size k.size, fun i hi hn =>
    (k.block i (Nat.lt_of_lt_of_le hi h.size) (fun hm => by rcases hs i hm with h1 | h1; exact hn h1; omega)).trans (h.block i hi hn)⟩

theorem Keeps.trans {S : List Nat} {a b c : World} (h : Keeps S a b) (k : Keeps S b c) : Keeps S a c := h.trans' k fun _ hi => .inl hi

theorem Keeps.mono {S S' : List Nat} {a b : World} (h : Keeps S a b) (hs : ∀ i, i ∈ S → i ∈ S' ∨ a.heap.size ≤ i) : Keeps S' a b :=
  ⟨h.os, h.tape, h.output, h.size, fun i hi hn => h.block i hi fun hm => by rcases hs i hm with h1 | h1; exact hn h1; omega⟩

theorem Keeps.drew {S : List Nat} {a w : World} (h : Keeps S a w) : Keeps S a w.drew := ⟨h.os, h.tape, h.output, h.size, h.block⟩
theorem Keeps.drewN {S : List Nat} {a w : World} (h : Keeps S a w) (n : Nat) : Keeps S a (w.drewN n) := ⟨h.os, h.tape, h.output, h.size, h.block⟩

theorem Keeps.alloc {S : List Nat} {a w : World} (h : Keeps S a w) (o : Obj) : Keeps S a (w.alloc o) :=
  h.trans ⟨rfl, rfl, rfl, by simp, fun k hk _ => Below.heap_alloc _ _ _ hk⟩

theorem Keeps.setCell {S : List Nat} {a w : World} (h : Keeps S a w) {p : Addr} (hp : p.block ∈ S ∨ a.heap.size ≤ p.block) (u : Value) : Keeps S a (w.setCell p u) :=
  h.trans' (S' := [p.block]) ⟨rfl, rfl, rfl, by simp [World.setCell], fun k _ hn => Below.heap_setCell _ _ _ _ (by simpa using hn)⟩ (by simpa using hp)

theorem Keeps.grown {S : List Nat} {a w w' : World} {row : Option Nat} (h : Keeps S a w) (hg : w.grownBy w' row) (hr : ∀ k, row = some k → k ∈ S ∨ a.heap.size ≤ k) : Keeps S a w' :=
  h.trans' (S' := row.toList) ⟨hg.os, hg.tape, hg.output, hg.size, fun k hk hn => hg.block k hk (fun e => hn (by rw [← e]; simp))⟩ (by intro i hi; cases row with | none => simp at hi | some k => simp at hi; subst hi; exact hr i rfl)

theorem Keeps.of_below {S : List Nat} {w w' : World} (h : Below w.heap.size w w') : Keeps S w w' := ⟨h.os, h.tape, h.output, h.size, fun k hk _ => h.block k hk⟩

theorem Keeps.below {w w' : World} {B : Nat} {S : List Nat} (h : Keeps S w w') (hB : B ≤ w.heap.size) (hS : ∀ k, k ∈ S → B ≤ k) : Below B w w' :=
  ⟨h.os, h.tape, h.output, h.size, fun k hk => h.block k (by omega) (fun hm => by have := hS k hm; omega)⟩

theorem Keeps.cell {S : List Nat} {w w' : World} (h : Keeps S w w') {p : Addr} {v : Value} (hc : w.cell? p = some v) (hp : p.block ∉ S) : w'.cell? p = some v :=
  (World.cell?_of_block (h.block p.block (World.block_lt_of_cell? w p hc) hp)).trans hc

theorem Keeps.frozen {S : List Nat} {w w' : World} (h : Keeps S w w') {p : Addr} {v : Value} (hc : w.cell? p = some v) (hp : p.block ∉ S) : w'.frozen? p = w.frozen? p :=
  World.frozen?_of_block (h.block p.block (World.block_lt_of_cell? w p hc) hp)

/-- a cell that may be written -/
structure Own (w : World) (p : Addr) (v : Value) : Prop where
  cell : w.cell? p = some v
  free : w.frozen? p = false

theorem Own.lt {w : World} {p : Addr} {v : Value} (h : Own w p v) : p.block < w.heap.size := World.block_lt_of_cell? w p h.cell

theorem Own.keep {S : List Nat} {w w' : World} {p : Addr} {v : Value} (h : Own w p v) (k : Keeps S w w') (hp : p.block ∉ S) : Own w' p v :=
  ⟨k.cell h.cell hp, (k.frozen h.cell hp).trans h.free⟩

theorem Own.set {w : World} {p : Addr} {v : Value} (h : Own w p v) (hs : p.spot = none) (u : Value) : Own (w.setCell p u) p u := by
  obtain ⟨b, o, s⟩ := p
  subst hs
  have hc := h.cell
  have hf := h.free
  constructor
  · simp only [World.cell?, World.setCell, Array.getElem?_modify] at hc ⊢
    cases hb : w.heap[b]? with
    | none => rw [hb] at hc; simp at hc
    | some ob =>
      rw [hb] at hc
      cases ob <;> simp_all
      rename_i c _ _
      rw [Array.getElem?_setIfInBounds_self]
      have : o < c.size := by have := (Array.getElem?_eq_some_iff.1 hc).1; exact this
      simp [this]
  · simp only [World.frozen?, World.setCell, Array.getElem?_modify] at hf ⊢
    cases hb : w.heap[b]? with
    | none => simp
    | some ob =>
      rw [hb] at hf
      cases ob <;> simp_all

theorem Own.set_other {w : World} {p q : Addr} {v : Value} (h : Own w p v) (hs : p ≠ q) (h1 : p.spot = none) (h2 : q.spot = none) (u : Value) : Own (w.setCell q u) p v := by
  obtain ⟨b, o, s⟩ := p
  obtain ⟨b', o', s'⟩ := q
  subst h1
  subst h2
  have hc := h.cell
  have hf := h.free
  by_cases e : b = b'
  · subst e
    have ho : o ≠ o' := fun e => hs (by rw [e])
    constructor
    · simp only [World.cell?, World.setCell, Array.getElem?_modify] at hc ⊢
      cases hb : w.heap[b]? with
      | none => rw [hb] at hc; simp at hc
      | some ob =>
        rw [hb] at hc
        cases ob <;> simp_all
        rw [Array.getElem?_setIfInBounds_ne (Ne.symm ho)]
        exact hc
    · simp only [World.frozen?, World.setCell, Array.getElem?_modify] at hf ⊢
      cases hb : w.heap[b]? with
      | none => simp
      | some ob =>
        rw [hb] at hf
        cases ob <;> simp_all
  · have := Below.heap_setCell w ⟨b', o', none⟩ u b e
    exact ⟨(World.cell?_of_block (a := ⟨b, o, none⟩) this).trans hc, (World.frozen?_of_block (a := ⟨b, o, none⟩) this).trans hf⟩

end Go.Proofs.Ytcbfmolebomkdaa
