/- The plain market, and how the document's market lies in memory. -/
import Derived.Test.YtcbfmolebomkdaaKeep
namespace Go.Proofs.Ytcbfmolebomkdaa
open Go.RowKit

/-- A load: trader, to, good, pieces, due. -/
structure Ld where
  t : Int
  h : Int
  g : Int
  n : Int
  d : Int

def Ld.cells (l : Ld) : List Value := [.int .i64 l.t, .int .i64 l.h, .int .i64 l.g, .int .i64 l.n, .int .i64 l.d]
def ldCells : List Ld → List Value
  | [] => []
  | l :: r => l.cells ++ ldCells r

theorem ldCells_append (a b : List Ld) : ldCells (a ++ b) = ldCells a ++ ldCells b := by
  induction a with
  | nil => rfl
  | cons x a ih => simp [ldCells, ih]

theorem ldCells_length (a : List Ld) : (ldCells a).length = a.length * 5 := by
  induction a with
  | nil => rfl
  | cons x a ih => simp [ldCells, ih, Ld.cells]; omega

theorem ldCells_at (a : List Ld) (i : Nat) (l : Ld) (h : a[i]? = some l) (j : Nat) (hj : j < 5) : (ldCells a)[i * 5 + j]? = l.cells[j]? := by
  induction a generalizing i with
  | nil => simp at h
  | cons x a ih =>
    cases i with
    | zero =>
      simp at h
      subst h
      simp only [ldCells, Nat.zero_mul, Nat.zero_add]
      rw [List.getElem?_append_left (by simp [Ld.cells]; omega)]
    | succ i =>
      simp at h
      have := ih i h
      rw [← this]
      simp only [ldCells]
      rw [List.getElem?_append_right (by simp [Ld.cells]; omega)]
      congr 1
      simp [Ld.cells]
      omega

/-- What is coming of loads. -/
def come (t h g : Int) : List Ld → Int
  | [] => 0
  | l :: r => (if l.t = t ∧ l.h = h ∧ l.g = g then l.n else 0) + come t h g r

theorem come_append (t h g : Int) (a b : List Ld) : come t h g (a ++ b) = come t h g a + come t h g b := by
  induction a with
  | nil => simp [come]
  | cons x a ih => simp only [List.cons_append, come, ih]; omega

theorem come_bd (t h g : Int) (a : List Ld) (hb : ∀ l, l ∈ a → 0 ≤ l.n ∧ l.n ≤ 10000) : 0 ≤ come t h g a ∧ come t h g a ≤ 10000 * a.length := by
  induction a with
  | nil => simp [come]
  | cons x a ih =>
    have h1 := hb x (by simp)
    have h2 := ih fun l hl => hb l (by simp [hl])
    simp only [come, List.length_cons]
    split <;> omega

theorem come_snoc (t h g : Int) (a : List Ld) (k : Nat) (hk : k < a.length) : come t h g (a.take (k + 1)) = come t h g (a.take k) + if a[k].t = t ∧ a[k].h = h ∧ a[k].g = g then a[k].n else 0 := by
  rw [List.take_succ_eq_append_getElem hk, come_append]
  simp [come]

/-- The market: so many traders, goods, halls; money; pieces by trader, hall, good; loads; the time. -/
structure Mk where
  T : Nat
  G : Nat
  H : Nat
  mo : Nat → Int
  pc : Nat → Nat → Nat → Int
  ld : List Ld
  tm : Int

/-- A market that may be (N: a bound on pieces). -/
structure Mk.Ok (m : Mk) (N : Int) : Prop where
  bN : N ≤ 1000000000000
  T1 : 1 ≤ m.T
  T8 : m.T ≤ 8
  G1 : 1 ≤ m.G
  G4 : m.G ≤ 4
  H1 : 1 ≤ m.H
  H4 : m.H ≤ 4
  mo : ∀ t, t < m.T → 0 ≤ m.mo t ∧ m.mo t ≤ 1000000000000
  pc : ∀ t h g, t < m.T → h < m.H → g < m.G → 0 ≤ m.pc t h g ∧ m.pc t h g ≤ N
  l20 : m.ld.length ≤ 20
  ld : ∀ l, l ∈ m.ld → (0 ≤ l.t ∧ l.t < m.T) ∧ (0 ≤ l.h ∧ l.h < m.H) ∧ (0 ≤ l.g ∧ l.g < m.G) ∧ (1 ≤ l.n ∧ l.n ≤ 10000) ∧ (0 ≤ l.d ∧ l.d ≤ 1000000010)
  tm : 0 ≤ m.tm ∧ m.tm ≤ 1000000000

/-- Where the document's market lies. -/
structure RL where
  c : Nat
  rb : Nat
  rcap : Nat
  mb : Nat
  pb : Nat
  lv : Value

def RL.fp (L : RL) : List Nat := [L.c, L.mb, L.pb] ++ L.lv.ownBlock.toList

structure RefRep (w : World) (L : RL) (m : Mk) : Prop where
  cT : Own w ⟨L.c, 0, none⟩ (.int .i64 m.T)
  cG : Own w ⟨L.c, 1, none⟩ (.int .i64 m.G)
  cR : Own w ⟨L.c, 2, none⟩ (.slice (some ⟨L.rb, 0, none⟩) m.H L.rcap)
  cM : Own w ⟨L.c, 3, none⟩ (.slice (some ⟨L.mb, 0, none⟩) m.T m.T)
  cP : Own w ⟨L.c, 4, none⟩ (.slice (some ⟨L.pb, 0, none⟩) (m.T * m.G * m.H) (m.T * m.G * m.H))
  cW : Own w ⟨L.c, 5, none⟩ (.slice none 0 0)
  cL : Own w ⟨L.c, 6, none⟩ L.lv
  cF : Own w ⟨L.c, 11, none⟩ (.int .i64 0)
  cTm : Own w ⟨L.c, 12, none⟩ (.int .i64 m.tm)
  mo : ∀ t, t < m.T → Own w ⟨L.mb, t, none⟩ (.int .i64 (m.mo t))
  pc : ∀ t h g, t < m.T → h < m.H → g < m.G → Own w ⟨L.pb, (t * m.H + h) * m.G + g, none⟩ (.int .i64 (m.pc t h g))
  ld : w.ownsRow 0 130 5 L.lv m.ld.length (ldCells m.ld)
  n1 : L.c ≠ L.mb
  n2 : L.c ≠ L.pb
  n3 : L.mb ≠ L.pb
  n4 : L.lv.ownBlock ≠ some L.c
  n5 : L.lv.ownBlock ≠ some L.mb
  n6 : L.lv.ownBlock ≠ some L.pb

theorem ownsRow_keep {S : List Nat} {w w' : World} {b : Nat} {e : TypeId} {size : Nat} {v : Value} {n : Nat} {xs : List Value} (h : w.ownsRow b e size v n xs) (k : Keeps S w w') (hv : ∀ g, v.ownBlock = some g → g ∉ S) : w'.ownsRow b e size v n xs := by
  refine ⟨h.1, ?_⟩
  rcases h.2 with hn | ⟨g, cap, cur, rfl, hb, hgg, rest⟩
  · exact .inl hn
  · refine .inr ⟨g, cap, cur, rfl, hb, ?_, rest⟩
    rw [k.block g (Array.getElem?_eq_some_iff.1 hgg).1 (hv g rfl)]
    exact hgg

theorem RefRep.keep {S : List Nat} {w w' : World} {L : RL} {m : Mk} (h : RefRep w L m) (k : Keeps S w w') (hs : ∀ b, b ∈ L.fp → b ∉ S) : RefRep w' L m := by
  have a1 : L.c ∉ S := hs _ (by simp [RL.fp])
  have a2 : L.mb ∉ S := hs _ (by simp [RL.fp])
  have a3 : L.pb ∉ S := hs _ (by simp [RL.fp])
  exact ⟨h.cT.keep k a1, h.cG.keep k a1, h.cR.keep k a1, h.cM.keep k a1, h.cP.keep k a1, h.cW.keep k a1, h.cL.keep k a1, h.cF.keep k a1, h.cTm.keep k a1,
    fun t ht => (h.mo t ht).keep k a2, fun t i g ht hi hg => (h.pc t i g ht hi hg).keep k a3, ownsRow_keep h.ld k (fun g hg => hs g (by simp [RL.fp, hg])), h.n1, h.n2, h.n3, h.n4, h.n5, h.n6⟩

theorem RefRep.lt {w : World} {L : RL} {m : Mk} {N : Int} (h : RefRep w L m) (o : m.Ok N) : ∀ b, b ∈ L.fp → b < w.heap.size := by
  intro b hb
  simp only [RL.fp, List.mem_append, List.mem_cons, List.not_mem_nil, or_false, Option.mem_toList] at hb
  rcases hb with (rfl | rfl | rfl) | hb
  · exact h.cT.lt
  · exact (h.mo 0 (by have := o.T1; omega)).lt
  · exact (h.pc 0 0 0 (by have := o.T1; omega) (by have := o.H1; omega) (by have := o.G1; omega)).lt
  · exact (h.ld.lt b (by simpa using hb)).2

end Go.Proofs.Ytcbfmolebomkdaa
