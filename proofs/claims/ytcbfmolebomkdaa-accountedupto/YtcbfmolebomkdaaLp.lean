/- The law: what holds between two steps. -/
import Derived.Test.YtcbfmolebomkdaaLo
import Derived.Test.YtcbfmolebomkdaaLm
import Derived.Test.YtcbfmolebomkdaaLh
namespace Go.Proofs.Ytcbfmolebomkdaa
open Go.RowKit

inductive Ix where
  | p
  | ps
  | a
  | e
  | x (i : Nat)
  | c (i : Nat)

structure St where
  n : Nat
  L : Nat → PL
  R : Nat → RL
  m : Nat → Mk
  psv : Value
  av : Value
  ev : Value
  al : List Value
  es : List Value

def St.F (s : St) (p : Nat) : Ix → List Nat
  | .p => [p]
  | .ps => s.psv.ownBlock.toList
  | .a => s.av.ownBlock.toList
  | .e => s.ev.ownBlock.toList
  | .x i => if i < s.n then (s.L i).fp else []
  | .c i => if i < s.n then (s.R i).fp else []

def Sep (F : Ix → List Nat) : Prop := ∀ i j b, i ≠ j → b ∈ F i → b ∉ F j

def pairCells (L : Nat → PL) (R : Nat → RL) : Nat → List Value
  | 0 => []
  | k + 1 => pairCells L R k ++ [.pointer (some ⟨(L k).x, 0, none⟩), .pointer (some ⟨(R k).c, 0, none⟩)]

theorem pairCells_congr {L L' : Nat → PL} {R R' : Nat → RL} : ∀ n, (∀ i, i < n → (L' i).x = (L i).x ∧ (R' i).c = (R i).c) → pairCells L' R' n = pairCells L R n
  | 0, _ => rfl
  | k + 1, h => by
    simp only [pairCells]
    rw [pairCells_congr k (fun i hi => h i (by omega)), (h k (by omega)).1, (h k (by omega)).2]

theorem pairCells_length (L : Nat → PL) (R : Nat → RL) (n : Nat) : (pairCells L R n).length = n * 2 := by
  induction n with
  | zero => rfl
  | succ k ih => simp [pairCells, ih]; omega

theorem pairCells_at (L : Nat → PL) (R : Nat → RL) (n i : Nat) (hi : i < n) : (pairCells L R n)[i * 2]? = some (.pointer (some ⟨(L i).x, 0, none⟩)) ∧ (pairCells L R n)[i * 2 + 1]? = some (.pointer (some ⟨(R i).c, 0, none⟩)) := by
  induction n with
  | zero => omega
  | succ k ih =>
    have hl := pairCells_length L R k
    simp only [pairCells]
    by_cases e : i = k
    · subst e
      rw [List.getElem?_append_right (by omega), List.getElem?_append_right (by omega), hl]
      simp
    · have := ih (by omega)
      rw [List.getElem?_append_left (by omega), List.getElem?_append_left (by omega)]
      exact this

/-- a block that nobody writes any more -/
def Dead (s : St) (p b : Nat) : Prop := ∀ ix, b ∉ s.F p ix

def markA (i : Nat) : List Value := [.int .i64 (-7070 - (i : Int)), .int .i64 0, .int .i64 0, .int .i64 0, .int .i64 0]
def markE (i : Nat) : List Value := [.int .i64 (-7070 - (i : Int))]

structure Inv (B0 p : Nat) (N : Int) (s : St) (w : World) : Prop where
  b0 : B0 ≤ w.heap.size
  c0 : Own w ⟨p, 0, none⟩ s.psv
  c1 : Own w ⟨p, 1, none⟩ s.av
  c2 : Own w ⟨p, 2, none⟩ (.slice none 0 0)
  c3 : Own w ⟨p, 3, none⟩ (.slice none 0 0)
  c4 : Own w ⟨p, 4, none⟩ (.slice none 0 0)
  c5 : Own w ⟨p, 5, none⟩ s.ev
  rps : w.ownsRow B0 48 2 s.psv s.n (pairCells s.L s.R s.n)
  ra : w.ownsRow B0 60 1 s.av s.al.length s.al
  re : w.ownsRow B0 112 1 s.ev s.es.length s.es
  rx : ∀ i, i < s.n → PRep w (s.L i) (s.m i)
  rc : ∀ i, i < s.n → RefRep w (s.R i) (s.m i)
  ok : ∀ i, i < s.n → (s.m i).Ok N
  sep : Sep (s.F p)
  low : ∀ ix b, b ∈ s.F p ix → B0 ≤ b
  sh : ∀ i (hi : i < s.al.length), Marked (Dead s p) w s.al[i] (markA i) 5
  ct : ∀ i (hi : i < s.es.length), Marked (Dead s p) w s.es[i] (markE i) 1

theorem Inv.lt {B0 p : Nat} {N : Int} {s : St} {w : World} (h : Inv B0 p N s w) : ∀ ix b, b ∈ s.F p ix → b < w.heap.size := by
  intro ix b hb
  cases ix with
  | p => simp only [St.F, List.mem_singleton] at hb; subst hb; exact h.c0.lt
  | ps => exact (h.rps.lt b (by simpa [St.F] using hb)).2
  | a => exact (h.ra.lt b (by simpa [St.F] using hb)).2
  | e => exact (h.re.lt b (by simpa [St.F] using hb)).2
  | x i =>
    simp only [St.F] at hb
    by_cases hi : i < s.n
    · rw [if_pos hi] at hb
      exact (h.rx i hi).lt (h.ok i hi).T1 b hb
    · rw [if_neg hi] at hb; simp at hb
  | c i =>
    simp only [St.F] at hb
    by_cases hi : i < s.n
    · rw [if_pos hi] at hb
      exact (h.rc i hi).lt (h.ok i hi) b hb
    · rw [if_neg hi] at hb; simp at hb

/-- all live blocks turn only where it is said -/
theorem Inv.later {B0 p : Nat} {N : Int} {s : St} {w w' : World} (h : Inv B0 p N s w) (k : Keeps [] w w') : Inv B0 p N s w' :=
  ⟨Nat.le_trans h.b0 k.size, h.c0.keep k (by simp), h.c1.keep k (by simp), h.c2.keep k (by simp), h.c3.keep k (by simp), h.c4.keep k (by simp), h.c5.keep k (by simp), ownsRow_keep h.rps k (by simp), ownsRow_keep h.ra k (by simp), ownsRow_keep h.re k (by simp),
    fun i hi => (h.rx i hi).keep k (by simp), fun i hi => (h.rc i hi).keep k (by simp), h.ok, h.sep, h.low, fun i hi => (h.sh i hi).keep (by simp [markA]) k (by simp) (fun _ _ q => q), fun i hi => (h.ct i hi).keep (by simp [markE]) k (by simp) (fun _ _ q => q)⟩

/-- footprints that turn by new blocks alone stay apart -/
theorem sep_upd {F F' : Ix → List Nat} {z : Nat} (h : Sep F) (hlt : ∀ i b, b ∈ F i → b < z) (hF : ∀ i b, b ∈ F' i → b ∈ F i ∨ z ≤ b) (hN : ∀ i j b, i ≠ j → z ≤ b → b ∈ F' i → b ∉ F' j) : Sep F' := by
  intro i j b hij hi hj
  rcases hF i b hi with h1 | h1
  · rcases hF j b hj with h2 | h2
    · exact h i j b hij h1 h2
    · have := hlt i b h1; omega
  · exact hN i j b hij h1 hi hj

theorem dead_upd {s s' : St} {p z b : Nat} (hF : ∀ i b, b ∈ s'.F p i → b ∈ s.F p i ∨ z ≤ b) (hb : b < z) (h : Dead s p b) : Dead s' p b := fun ix hx => by
  rcases hF ix b hx with q | q
  · exact h ix q
  · omega

end Go.Proofs.Ytcbfmolebomkdaa
