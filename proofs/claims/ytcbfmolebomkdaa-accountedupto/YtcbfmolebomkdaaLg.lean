/- The law: returned. -/
import Derived.Test.YtcbfmolebomkdaaLf
import Derived.Deep.QuietTactic
import Derived.BigQuiet
namespace Go.Proofs.Ytcbfmolebomkdaa
open Go.RowKit

/-- what 'ints' leaves -/
def IntsPost (w : World) (p B0 : Nat) (ev : Value) (es : List Value) (l : Value) (w' : World) : Prop :=
  ∃ ev' nv, Own w' ⟨p, 5, none⟩ ev' ∧ w'.ownsRow B0 112 1 ev' (es.length + 1) (es ++ [nv]) ∧ (ev'.ownBlock = ev.ownBlock ∨ ∃ b, ev'.ownBlock = some b ∧ w.heap.size ≤ b) ∧
      (∀ j v, j ≠ 5 → Own w ⟨p, j, none⟩ v → Own w' ⟨p, j, none⟩ v) ∧ Keeps (p :: (l.ownBlock.toList ++ ev.ownBlock.toList)) w w' ∧
      ∀ D : Nat → Prop, (∀ b, l.ownBlock = some b ∨ (w.heap.size ≤ b ∧ ev'.ownBlock ≠ some b) → D b) → Marked D w' nv [.int .i64 (-7070 - (es.length : Int))] 1

set_option maxRecDepth 100000 in
set_option maxHeartbeats 1000000 in
theorem returned_nil (w : World) (p : Nat) (gv : Value) : Calls Try.prog 27 #[.pointer (some ⟨p, 0, none⟩), gv, .slice none 0 0] w fun e w' => e = .returned (.bool true) ∧ w' = w := by
  have hnil := fun (w : World) (a : Option Addr) (n c : Nat) => Lib.run_eql_slice_nil (P := Try.prog) w 38 3 a n c 0 0 Try.underlying38
  go_enter Try.func27, Try.ntmps27
  go_wp2
  go_ret
  exact ⟨rfl, rfl⟩

set_option maxRecDepth 100000 in
set_option maxHeartbeats 1000000 in
theorem returned_some (w : World) (p B0 base : Nat) (ev : Value) (es : List Value) (rb off rc gb cap : Nat) (rs : List Int) (hc : ∀ i x, rs[i]? = some x → w.cell? ⟨rb, off + i, none⟩ = some (.int .i64 x)) (hn : rs.length ≤ 2000000)
    (hg : w.ownsRow base 3 1 (.slice (some ⟨gb, 0, none⟩) (rs.length + 8) cap) (rs.length + 8) ((rs ++ nines 8).map (.int .i64)))
    (hc5 : Own w ⟨p, 5, none⟩ ev) (hev : w.ownsRow B0 112 1 ev es.length es) (hb0 : B0 ≤ w.heap.size) (hlp : gb ≠ p) (hle : ev.ownBlock ≠ some gb) (hep : ev.ownBlock ≠ some p) (hne : es.length ≤ 4000000) :
    Calls Try.prog 27 #[.pointer (some ⟨p, 0, none⟩), .slice (some ⟨gb, 0, none⟩) rs.length cap, .slice (some ⟨rb, off, none⟩) rs.length rc] w fun e w' => e = .returned (.bool true) ∧ IntsPost w p B0 ev es (.slice (some ⟨gb, 0, none⟩) rs.length cap) w' := by
  have hnil := fun (w : World) (a : Option Addr) (n c : Nat) => Lib.run_eql_slice_nil (P := Try.prog) w 38 3 a n c 0 0 Try.underlying38
  have hcap : rs.length + 8 ≤ cap := by
    rcases hg.2 with ⟨q, _⟩ | ⟨_, _, _, q, _, _, q2, _⟩
    · simp at q
    · simp only [Value.slice.injEq, true_and] at q
      rw [q.2]; exact q2
  have hl : LRow w (.slice (some ⟨gb, 0, none⟩) rs.length cap) 1 rs.length cap := .inr ⟨gb, rfl, by omega, there_row (e := 3) (xs := (rs ++ nines 8).map (.int .i64)) (n := rs.length + 8) (by
    refine ⟨hg.1, ?_⟩
    rcases hg.2 with q | ⟨a, b, d, q, _, r⟩
    · exact .inl q
    · exact .inr ⟨a, b, d, q, Nat.zero_le _, r⟩)⟩
  have HI : Hid (∀ nd, Calls Try.prog 67 #[.pointer (some ⟨p, 1, none⟩), .slice (some ⟨gb, 0, none⟩) rs.length cap] (w.drewN nd) fun e w' => e = .returned (.tuple #[]) ∧ IntsPost w p B0 ev es (.slice (some ⟨gb, 0, none⟩) rs.length cap) w') := hide fun nd => by
    have kd : Keeps [] w (w.drewN nd) := (Keeps.refl _ _).drewN nd
    have hle' : ∀ b, (Value.slice (some ⟨gb, 0, none⟩) rs.length cap).ownBlock = some b → ev.ownBlock ≠ some b := fun b hb => by
      have e : gb = b := by simpa [Value.ownBlock] using hb
      subst e
      exact hle
    refine (ints_any (w.drewN nd) p B0 ev es _ rs.length cap (hc5.keep kd (by simp)) (ownsRow_keep hev kd (by simp)) hb0 (hl.ext (row := none) (.of_keeps kd)) (by simp [Value.ownBlock, hlp]) hle' hep hne hn).mono ?_
    rintro e w' ⟨rfl, ev', nv, h1, h2, h3, h4, h5, h6⟩
    exact ⟨rfl, ev', nv, h1, h2, h3, fun j v hj hv => h4 j v hj (hv.keep kd (by simp)), (kd.mono (by simp)).trans h5, h6⟩
  have gc : Hid (∀ i x, (rs ++ nines 8)[i]? = some x → w.cell? ⟨gb, i, none⟩ = some (.int .i64 x)) := hide fun i x hx => by
    have hi : i < rs.length + 8 := by have := (List.getElem?_eq_some_iff.1 hx).1; simpa [nines] using this
    rw [hg.cellAt i (by omega)]
    simp only [List.getElem?_map, hx]
    rfl
  have HC := hide hc
  clear hc hc5 hev hg hl
  go_enter Try.func27, Try.ntmps27
  go_wp2
  go_loopw [8, 9] (fun o i wr => ∃ k : Nat, k ≤ rs.length ∧ i = .int .i64 k ∧ o = .bool true ∧ ∃ n, wr = w.drewN n) (fun _ i _ => rs.length - (intOf i).toNat)
  case atStart => exact ⟨0, by omega, rfl, rfl, 0, rfl⟩
  case round =>
    obtain ⟨k, hk, rfl, rfl, nd, rfl⟩ := hrel
    by_cases hlt : k < rs.length
    · have q1 := HC.out k rs[k] (by simp)
      have q2 := gc.out k rs[k] (by rw [List.getElem?_append_left hlt]; simp)
      generalize rs[k] = x at *
      go_wp2
      go_quiet (fail)
      go_wp2
      exact ⟨⟨k + 1, by omega, by go_num, rfl, _, rfl⟩, by simp [intOf]; omega⟩
    · go_wp2
      go_loopw [8, 10] (fun o i wr => ∃ k : Nat, k ≤ 8 ∧ i = .int .i64 k ∧ o = .bool true ∧ ∃ n, wr = w.drewN n) (fun _ i _ => 8 - (intOf i).toNat)
      case atStart => exact ⟨0, by omega, rfl, rfl, nd, rfl⟩
      case round =>
        obtain ⟨j, hj, rfl, rfl, nd', rfl⟩ := hrel
        by_cases hlt8 : j < 8
        · have q2 := gc.out (rs.length + j) (900 + (j : Int)) (by rw [List.getElem?_append_right (by omega)]; simp [nines, hlt8])
          go_wp2
          exact ⟨⟨j + 1, by omega, by go_num, rfl, _, rfl⟩, by simp [intOf]; omega⟩
        · go_wp2_with fail
          refine (HI.out nd').mono ?_
          rintro e w' ⟨rfl, hp⟩
          go_wp2
          go_ret
          exact ⟨rfl, hp⟩

end Go.Proofs.Ytcbfmolebomkdaa
