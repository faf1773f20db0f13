/- The law's book: stocks, plain lemmas. -/
import Derived.Test.YtcbfmolebomkdaaLd
namespace Go.Proofs.Ytcbfmolebomkdaa
open Go.RowKit

theorem Four.setCells {w0 : World} {ow : Option Nat} {nb n z : Nat} {G C : Nat → Nat} {A : Nat → Option Addr} {et : TypeId} {wr : World} (h : Four w0 ow nb n z G C A et wr) (q : Nat) (hq : q < 4) (hn : 0 < n + q) (o : Nat) (vs : List Value) :
    Four w0 ow nb n z G C A et (wr.setCells (G q) o vs) := by
  induction vs generalizing wr o with
  | nil => exact h
  | cons v r ih => exact ih (h.set q hq hn o v) (o + 1)

theorem Four.later {w0 : World} {ow : Option Nat} {nb n z : Nat} {G C : Nat → Nat} {A : Nat → Option Addr} {et : TypeId} {wr wr' : World} (h : Four w0 ow nb n z G C A et wr) (k : Keeps [] wr wr') (hnb : nb < wr.heap.size) : Four w0 ow nb n z G C A et wr' :=
  ⟨h.ex.trans (k.mono (by simp)), by rw [k.block nb hnb (by simp)]; exact h.row, h.new, h.adr, fun i hi hi' => (h.th i hi hi').keep k (by simp), h.own, h.ne⟩

/-- a mark of five cells written over stays where it stood -/
theorem mark_stays {wr : World} {g o g' j' i : Nat} {mk : List Value} {u : Value} (hm : mk.length = 5) (hth : ∀ x, x < 5 → (wr.cell? ⟨g, o * 5 + x, none⟩).isSome = true) (hu : mk[i]? = some u) (h : wr.cell? ⟨g', j' * 5 + i, none⟩ = some u) : (wr.setCells g (o * 5) mk).cell? ⟨g', j' * 5 + i, none⟩ = some u := by
  have hi : i < 5 := by have := (List.getElem?_eq_some_iff.1 hu).1; omega
  by_cases e : g' = g ∧ j' = o
  · obtain ⟨rfl, rfl⟩ := e
    rw [World.cell?_setCells_in g' mk (j' * 5) wr (fun j hj => hth j (by omega)) i (by omega)]
    rw [List.getElem?_eq_getElem (by omega)] at hu
    exact hu
  · rw [World.cell?_setCells_out]
    · exact h
    · intro hb _
      simp only [] at hb ⊢
      have : j' ≠ o := fun hj => e ⟨hb, hj⟩
      omega

theorem mark_new {wr : World} {g o i : Nat} {mk : List Value} {u : Value} (hm : mk.length = 5) (hth : ∀ x, x < 5 → (wr.cell? ⟨g, o * 5 + x, none⟩).isSome = true) (hu : mk[i]? = some u) : (wr.setCells g (o * 5) mk).cell? ⟨g, o * 5 + i, none⟩ = some u := by
  have hi : i < 5 := by have := (List.getElem?_eq_some_iff.1 hu).1; omega
  rw [World.cell?_setCells_in g mk (o * 5) wr (fun j hj => hth j (by omega)) i (by omega)]
  rw [List.getElem?_eq_getElem (by omega)] at hu
  exact hu

end Go.Proofs.Ytcbfmolebomkdaa
