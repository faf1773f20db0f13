/- The document's market: what only reads. -/
import Derived.Test.YtcbfmolebomkdaaA
import Derived.Test.YtcbfmolebomkdaaMk
namespace Go.Proofs.Ytcbfmolebomkdaa
open Go.RowKit

set_option maxHeartbeats 400000 in
theorem held_any (c : Nat) (t : Int) (w : World) (h5 : w.cell? ⟨c, 5, none⟩ = some (.slice none 0 0)) :
    Calls Try.prog 60 #[.pointer (some ⟨c, 0, none⟩), .int .i64 t] w fun e w' => e = .returned (.int .i64 0) ∧ w' = w := by
  go_enter Try.func60, Try.ntmps60
  go_wp2
  go_loop [5, 6] (fun n i => n = .int .i64 0 ∧ i = .int .i64 0) (fun _ _ => 0)
  case atStart => exact ⟨rfl, rfl⟩
  case round =>
    obtain ⟨rfl, rfl⟩ := hrel
    go_wp2
    go_ret
    exact ⟨rfl, rfl⟩

set_option maxHeartbeats 400000 in
theorem kept_any (c : Nat) (t h g : Int) (w : World) (h5 : w.cell? ⟨c, 5, none⟩ = some (.slice none 0 0)) :
    Calls Try.prog 62 #[.pointer (some ⟨c, 0, none⟩), .int .i64 t, .int .i64 h, .int .i64 g] w fun e w' => e = .returned (.int .i64 0) ∧ w' = w := by
  go_enter Try.func62, Try.ntmps62
  go_wp2
  go_loop [9, 10] (fun n i => n = .int .i64 0 ∧ i = .int .i64 0) (fun _ _ => 0)
  case atStart => exact ⟨rfl, rfl⟩
  case round =>
    obtain ⟨rfl, rfl⟩ := hrel
    go_wp2
    go_ret
    exact ⟨rfl, rfl⟩

set_option maxHeartbeats 400000 in
theorem free_any (c mb : Nat) (T k : Nat) (x : Int) (w : World) (h5 : w.cell? ⟨c, 5, none⟩ = some (.slice none 0 0))
   (h3 : w.cell? ⟨c, 3, none⟩ = some (.slice (some ⟨mb, 0, none⟩) T T)) (hk : k < T) (hx : w.cell? ⟨mb, k, none⟩ = some (.int .i64 x)) (b0 : 0 ≤ x) (b1 : x ≤ 1000000000000) :
    Calls Try.prog 59 #[.pointer (some ⟨c, 0, none⟩), .int .i64 k] w fun e w' => e = .returned (.int .i64 x) ∧ w' = w := by
  go_enter Try.func59, Try.ntmps59
  go_wp2_with (first | (go_at_call 60; refine (held_any _ _ _ h5).mono ?_; rintro e w' ⟨rfl, rfl⟩))
  go_ret
  exact ⟨rfl, rfl⟩


/-- the cells of one load in the row -/
theorem load_cells {w : World} {e : TypeId} {lv : Value} {ls : List Ld} (h : w.ownsRow 0 e 5 lv ls.length (ldCells ls)) (k : Nat) (hk : k < ls.length) :
    ∃ lb cap, lv = .slice (some ⟨lb, 0, none⟩) ls.length cap ∧ w.cell? ⟨lb, k * 5, none⟩ = some (.int .i64 ls[k].t) ∧ w.cell? ⟨lb, k * 5 + 1, none⟩ = some (.int .i64 ls[k].h) ∧ w.cell? ⟨lb, k * 5 + 2, none⟩ = some (.int .i64 ls[k].g) ∧ w.cell? ⟨lb, k * 5 + 3, none⟩ = some (.int .i64 ls[k].n) ∧ w.cell? ⟨lb, k * 5 + 4, none⟩ = some (.int .i64 ls[k].d) := by
  rcases h.2 with ⟨_, hn⟩ | ⟨g, cap, cur, rfl, hb, hgg, rest⟩
  · omega
  · refine ⟨g, cap, rfl, ?_⟩
    have hat : ∀ j, j < 5 → w.cell? ⟨g, k * 5 + j, none⟩ = ls[k].cells[j]? := fun j hj => by
      rw [h.cellAt (k * 5 + j) (by omega)]
      exact ldCells_at ls k ls[k] (by simp) j hj
    exact ⟨hat 0 (by omega), hat 1 (by omega), hat 2 (by omega), hat 3 (by omega), hat 4 (by omega)⟩

set_option maxHeartbeats 400000 in
theorem coming_any (c : Nat) (t h g : Int) (w : World) (lv : Value) (ls : List Ld) (h6 : w.cell? ⟨c, 6, none⟩ = some lv) (hl : w.ownsRow 0 130 5 lv ls.length (ldCells ls)) (hb : ∀ l, l ∈ ls → 0 ≤ l.n ∧ l.n ≤ 10000) (h20 : ls.length ≤ 20) :
    Calls Try.prog 63 #[.pointer (some ⟨c, 0, none⟩), .int .i64 t, .int .i64 h, .int .i64 g] w fun e w' => e = .returned (.int .i64 (come t h g ls)) ∧ Keeps [] w w' := by
  have hlen : ∃ a cap, lv = .slice a ls.length cap := by
    rcases hl.2 with ⟨rfl, hn⟩ | ⟨g, cap, cur, rfl, _⟩
    · exact ⟨none, 0, by rw [hn]⟩
    · exact ⟨_, _, rfl⟩
  obtain ⟨a, cap, hlv⟩ := hlen
  subst hlv
  go_enter Try.func63, Try.ntmps63
  go_wp2
  go_loopw [9, 10] (fun n i wr => ∃ k : Nat, k ≤ ls.length ∧ i = .int .i64 k ∧ n = .int .i64 (come t h g (ls.take k)) ∧ Keeps [] w wr) (fun _ i _ => ls.length - (intOf i).toNat)
  case atStart => exact ⟨0, Nat.zero_le _, rfl, by simp [come], Keeps.refl _ _⟩
  case round =>
    obtain ⟨k, hk, rfl, rfl, hkp⟩ := hrel
    have h6r := hkp.cell h6 (by simp)
    by_cases hlt : k < ls.length
    · have hlr := ownsRow_keep hl hkp (by simp)
      obtain ⟨lb, cap', hv, q0, q1, q2, q3, q4⟩ := load_cells hlr k hlt
      simp only [Value.slice.injEq, true_and] at hv
      obtain ⟨rfl, rfl⟩ := hv
      have HS := hide (come_snoc t h g ls k hlt)
      have hbk := hb ls[k] (by simp)
      have hbb := come_bd t h g (ls.take k) (fun l hl => hb l (List.mem_of_mem_take hl))
      have hll : (ls.take k).length = k := by simp; omega
      rw [hll] at hbb
      clear hll hl hlr hb
      generalize ls[k] = l at *
      go_wp2
      all_goals refine ⟨⟨k + 1, by omega, by go_num, ?_, hkp.alloc _⟩, by simp [intOf]; omega⟩
      all_goals refine congrArg (Value.int .i64) ?_
      all_goals rw [HS.out]
      all_goals simp_all
    · go_wp2
      go_ret
      refine ⟨?_, hkp⟩
      first | rfl | (rw [List.take_of_length_le (by omega)]; rfl) | trace_state

end Go.Proofs.Ytcbfmolebomkdaa
