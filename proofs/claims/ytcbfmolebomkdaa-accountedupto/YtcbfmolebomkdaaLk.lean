/- The law's book: what the region of stocks wants. -/
import Derived.Test.YtcbfmolebomkdaaLd
import Derived.Test.YtcbfmolebomkdaaG
import Derived.Deep.DeepCutAuto
namespace Go.Proofs.Ytcbfmolebomkdaa
open Go.RowKit

theorem info60 : (Try.prog.info? 60).map (fun i => (i.zero, i.size, i.bytes)) = some (some (.slice none 0 0), 1, 24) := by kernel_rfl

/-- the four lists, in whatever order they were made -/
theorem four_any {w W : World} {a : Option Addr} {n c z g1 c1 g2 c2 g3 c3 : Nat} {et : TypeId} (hz : 0 < z) (hl : LRow w (.slice a n c) z n c) (ex : Ext (Value.slice a n c).ownBlock w W)
    (h1 : (Value.slice a n c).ownBlock = some g1 ∨ w.heap.size ≤ g1) (t1 : There W g1 ((n + 1) * z)) (h2 : (Value.slice a n c).ownBlock = some g2 ∨ w.heap.size ≤ g2) (t2 : There W g2 ((n + 2) * z)) (h3 : (Value.slice a n c).ownBlock = some g3 ∨ w.heap.size ≤ g3) (t3 : There W g3 ((n + 3) * z)) :
    Four w (Value.slice a n c).ownBlock W.heap.size n z (pick4 ((Value.slice a n c).ownBlock.getD 0) g1 g2 g3) (pick4 c c1 c2 c3) (pick4 a (some ⟨g1, 0, none⟩) (some ⟨g2, 0, none⟩) (some ⟨g3, 0, none⟩)) et
      (W.alloc (.cells #[.slice a n c, .slice (some ⟨g1, 0, none⟩) (n + 1) c1, .slice (some ⟨g2, 0, none⟩) (n + 2) c2, .slice (some ⟨g3, 0, none⟩) (n + 3) c3] et)) := by
  have lt : ∀ {g k : Nat}, 0 < k → There W g (k * z) → g < W.heap.size := fun hk h => by
    obtain ⟨u, hu⟩ := h.at 0 (Nat.mul_pos hk hz)
    exact hu.lt
  exact four_made hz hl (Ext.trans ex (Ext.refl _ _)) h1 (lt (by omega) t1) t1 (Ext.refl _ _) h2 (lt (by omega) t2) t2 (Ext.refl _ _) h3 (lt (by omega) t3) t3

/-- all that came before -/
structure Whence (row : Option Nat) (w w' : World) : Prop where
  out : Ext row w w'
theorem Whence.refl (row : Option Nat) (w : World) : Whence row w w := ⟨Ext.refl row w⟩
theorem Whence.alloc {row : Option Nat} {a w : World} (h : Whence row a w) (o : Obj) : Whence row a (w.alloc o) := ⟨Ext.alloc h.out o⟩
theorem Whence.drew {row : Option Nat} {a w : World} (h : Whence row a w) : Whence row a w.drew := ⟨Ext.drew h.out⟩
theorem Whence.size {row : Option Nat} {a w : World} (h : Whence row a w) : a.heap.size ≤ w.heap.size := h.out.kp.size

theorem cell_al {w : World} {p : Addr} {v : Value} {o : Obj} (h : w.cell? p = some v) : (w.alloc o).cell? p = some v := (Keeps.alloc (Keeps.refl [] w) o).cell h (by simp)
theorem cell_dr {w : World} {p : Addr} {v : Value} (h : w.cell? p = some v) : w.drew.cell? p = some v := h

theorem blk_new {w : World} {B : Nat} {o : Obj} (h : B = w.heap.size) : (w.alloc o).heap[B]? = some o := by
  subst h
  exact heap_alloc_new w o
theorem blk_alloc {w : World} {B : Nat} {o o' : Obj} (h : w.heap[B]? = some o) : (w.alloc o').heap[B]? = some o := by
  rw [Below.heap_alloc w o' B (Array.getElem?_eq_some_iff.1 h).1]
  exact h
theorem blk_ext {row : Option Nat} {w w' : World} {B : Nat} {o : Obj} (e : Ext row w w') (hb : ∀ b, row = some b → b < B) (h : w.heap[B]? = some o) : w'.heap[B]? = some o := by
  rw [e.kp.block B (Array.getElem?_eq_some_iff.1 h).1 (fun hm => by have := hb B (by simpa using hm); omega)]
  exact h

/-- at a step of a region that draws its order, with all that came before -/
theorem step_app' {P : Program} {w : World} {ops : Array Oper} {o : Oper} {a : Act} {K : Act → World → Prop} {Q : Exit → Act → World → Prop} {E : Prop} (w0 : World) (hgd : o.guard = none) (s x : Operand) (t : TypeId)
    (ho : o.op = .call { callee := .builtin .append, args := #[s, x], argTypes := #[t, t] })
    (e : TypeId) (i : TypeInfo) (z : Value) (size bytes : Nat) (ht : P.underlying t = some (.slice e)) (hi : P.info? e = some i) (hz : i.zero = some z)
    (hsize : i.size = size) (hby : i.bytes = bytes) (hzs : z.cells.size = size) (hsz : 0 < size) (hbs : bytes ≤ 1000)
    (l : Value) (n c : Nat) (hs : a.eval s = l) (hl : LRow w0 l size n c) (ex : Whence l.ownBlock w0 w) (B m cc : Nat) (hx : a.eval x = .slice (some ⟨B, 0, none⟩) m cc) (cs : Array Value) (te : TypeId) (hblk : w.heap[B]? = some (.cells cs te (0, 0))) (hn : cs.toList.length = m * size) (h1c : ∀ u ∈ cs.toList, u.oneCell' = true) (hm : 0 < m) (hnm : n + m ≤ 10000000)
    (h : ∀ g c' w', (l.ownBlock = some g ∨ w0.heap.size ≤ g) → There w' g ((n + m) * size) → Ext l.ownBlock w w' → Whence l.ownBlock w0 w' → K (a.put o.dst (.slice (some ⟨g, 0, none⟩) (n + m) c')) w') :
    if Region.wanted o (yielded ops a.tmps) = true then Oper.wp P o a w K Q else E :=
  step_app hgd s x t ho e i z size bytes ht hi hz hsize hby hzs hsz hbs l n c hs (hl.ext ex.out) ⟨B, 0, none⟩ m cc cs.toList hx hn (World.news_of_block hblk) h1c hm hnm fun g c' w' h1 _ h3 h4 =>
    h g c' w' (h1.imp id fun h => Nat.le_trans ex.size h) h3 h4 ⟨Ext.trans ex.out h4⟩

theorem There.dr {w : World} {g k : Nat} (h : There w g k) : There w.drew g k := h
theorem There.alloc {w : World} {g k : Nat} (h : There w g k) (o : Obj) : There (w.alloc o) g k := h.keep (S := []) ((Keeps.refl _ _).alloc o) (by simp)

end Go.Proofs.Ytcbfmolebomkdaa
