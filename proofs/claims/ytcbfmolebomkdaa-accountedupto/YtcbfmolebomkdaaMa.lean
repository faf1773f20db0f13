/- The law: head. -/
import Derived.Test.YtcbfmolebomkdaaA
import Derived.Deep.RegionHeld3
namespace Go.Proofs.Ytcbfmolebomkdaa
open Go.RowKit

def opc (kd A B C D : Int) (rv : Value) : List Value := [.int .i64 kd, .int .i64 0, .int .i64 A, .int .i64 B, .int .i64 C, .int .i64 D, .int .i64 0, rv, .int .i64 0, .int .i64 0, .int .i64 0, .int .i64 0, .int .i64 0, .int .i64 0, .int .i64 0, .int .i64 0]

def headCells (rb : Nat) : List Value :=
  opc 1 4 2 0 0 (.slice (some ⟨rb, 0, none⟩) 3 3) ++ opc 2 0 500000 0 0 (.slice none 0 0) ++ opc 2 1 300000 0 0 (.slice none 0 0) ++ opc 4 1 0 1 500 (.slice none 0 0) ++ opc 4 2 1 0 900 (.slice none 0 0) ++ opc 4 2 0 1 300 (.slice none 0 0) ++ opc 6 1 0 0 0 (.slice none 0 0)

theorem lay_two (w : World) (aa bs : List Value) (ta tb : TypeId) : Keeps [] w ((w.alloc (.cells aa.toArray ta)).alloc (.cells bs.toArray tb)) ∧ (∀ j v, bs[j]? = some v → ((w.alloc (.cells aa.toArray ta)).alloc (.cells bs.toArray tb)).cell? ⟨w.heap.size + 1, j, none⟩ = some v) ∧ (∀ j v, aa[j]? = some v → ((w.alloc (.cells aa.toArray ta)).alloc (.cells bs.toArray tb)).cell? ⟨w.heap.size, j, none⟩ = some v) := by
  refine ⟨((Keeps.refl _ _).alloc _).alloc _, fun j v h => ?_, fun j v h => ?_⟩
  · have z := cell_of_row _ _ j _ _ _ (heap_alloc_new (w.alloc (.cells aa.toArray ta)) (.cells bs.toArray tb))
    have e : (w.alloc (.cells aa.toArray ta)).heap.size = w.heap.size + 1 := by simp
    rw [e] at z
    rw [z]
    simpa using h
  · have z := cell_of_row _ _ j _ _ _ (heap_alloc_new w (.cells aa.toArray ta))
    refine ((Keeps.refl [] _).alloc _).cell ?_ (by simp)
    rw [z]
    simpa using h

set_option maxRecDepth 100000 in
set_option maxHeartbeats 2000000 in
theorem head_any (w : World) : Calls Try.prog 5 #[] w fun e w' => ∃ hb rb, e = .returned (.slice (some ⟨hb, 0, none⟩) 7 7) ∧ w.heap.size ≤ hb ∧ w.heap.size ≤ rb ∧ Keeps [] w w' ∧ (∀ j v, (headCells rb)[j]? = some v → w'.cell? ⟨hb, j, none⟩ = some v) ∧ (∀ j v, [Value.int .i64 50, .int .i64 0, .int .i64 100][j]? = some v → w'.cell? ⟨rb, j, none⟩ = some v) := by
  go_enter Try.func5, Try.ntmps5
  go_wp2
  go_ret
  obtain ⟨h1, h2, h3⟩ := lay_two w [Value.int .i64 50, .int .i64 0, .int .i64 100] (headCells w.heap.size) 3 42
  exact ⟨_, _, rfl, Nat.le_succ _, Nat.le_refl _, h1, h2, h3⟩

end Go.Proofs.Ytcbfmolebomkdaa
