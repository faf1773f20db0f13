/- The statements' desk: a market that is opened. -/
import Derived.Test.YtcfoobhihhndjaaB31
namespace Go.Proofs.Ytcfoobhihhndjaa

section
open Go.RowKit Go.Sort

theorem openR_ok (rs : List Int) : 1 ≤ (openR rs).length ∧ (openR rs).length ≤ 3 ∧ ∀ x ∈ openR rs, 0 ≤ x ∧ x ≤ 100 := by
  unfold openR
  split
  · exact ⟨by decide, by decide, by decide⟩
  · rename_i h
    refine ⟨?_, ?_, fun x hx => ?_⟩
    · cases e : picks (rs.take 3) with
      | nil => exact absurd e h
      | cons a l => simp
    · simp [picks]; omega
    · obtain ⟨r, _, rfl⟩ := List.mem_map.1 hx
      have := pk_lt r (n := 101) (by decide)
      omega

/-- a desk with its rates -/
structure OpB (w : World) (rs : List Int) (W : World) : Prop where
  kp : Kep non w W
  c0 : Own W ⟨w.heap.size, 0, none⟩ (.pointer none)
  c4 : Own W ⟨w.heap.size, 4, none⟩ (.int .i64 0)
  c5 : Own W ⟨w.heap.size, 5, none⟩ (.slice none 0 0)
  rr : ∃ rb cap, Own W ⟨w.heap.size, 3, none⟩ (.slice (some ⟨rb, 0, none⟩) rs.length cap) ∧ w.heap.size < rb ∧ rb < W.heap.size ∧ ∀ i x, rs[i]? = some x → W.cell? ⟨rb, i, none⟩ = some (.int .i64 x)

theorem OpA.rates {w : World} {xs : List Int} {W : World} (S : OpA w xs W) (hx : xs ≠ []) : OpB w xs W := by
  have hl : 0 < xs.length := List.length_pos_iff.2 hx
  obtain ⟨a, c, h1, h2⟩ := S.v
  obtain ⟨b, cap, e⟩ := row_form1 h2 hl
  injection e with e _ e2
  subst e e2
  have lt := h2.lt b rfl
  refine ⟨S.kp, S.c0, S.c4, S.c5, b, c, h1, by omega, lt.2, fun i x hx => ?_⟩
  have hi : i < xs.length := (List.getElem?_eq_some_iff.1 hx).1
  rw [h2.cellAt i (by omega)]
  simp [hx]

theorem OpA.thirty {w : World} {W : World} (S : OpA w [] W) : OpB w [30] ((W.setCell ⟨w.heap.size, 3, none⟩ (.slice (some ⟨W.heap.size, 0, none⟩) 1 1)).alloc (.cells #[.int .i64 30] 3)) := by
  obtain ⟨a, c, h1, h2⟩ := S.v
  have lz := h1.lt
  have k1 : Kep (fun b => b = w.heap.size) W (W.setCell ⟨w.heap.size, 3, none⟩ (.slice (some ⟨W.heap.size, 0, none⟩) 1 1)) := (Kep.refl (fun b => b = w.heap.size) W).setCell (p := ⟨w.heap.size, 3, none⟩) (.inl rfl) _
  have k2 : Kep non (W.setCell ⟨w.heap.size, 3, none⟩ (.slice (some ⟨W.heap.size, 0, none⟩) 1 1)) ((W.setCell ⟨w.heap.size, 3, none⟩ (.slice (some ⟨W.heap.size, 0, none⟩) 1 1)).alloc (.cells #[.int .i64 30] 3)) := (Kep.refl _ _).alloc _
  have n : ∀ b, ¬ non b := fun _ f => f
  have oc : ∀ {j : Nat} {u : Value}, j ≠ 3 → Own W ⟨w.heap.size, j, none⟩ u → Own ((W.setCell ⟨w.heap.size, 3, none⟩ (.slice (some ⟨W.heap.size, 0, none⟩) 1 1)).alloc (.cells #[.int .i64 30] 3)) ⟨w.heap.size, j, none⟩ u := fun hj h => (h.set_other (q := ⟨w.heap.size, 3, none⟩) (by intro q; injection q with _ q _; exact hj q) rfl rfl _).kep k2 (n _)
  have hb := heap_alloc_new (W.setCell ⟨w.heap.size, 3, none⟩ (.slice (some ⟨W.heap.size, 0, none⟩) 1 1)) (.cells #[.int .i64 30] 3)
  have hz : (W.setCell ⟨w.heap.size, 3, none⟩ (.slice (some ⟨W.heap.size, 0, none⟩) 1 1)).heap.size = W.heap.size := by simp
  rw [hz] at hb
  refine ⟨(S.kp.setCell (p := ⟨w.heap.size, 3, none⟩) (.inr (Nat.le_refl _)) _).trans k2, oc (by decide) S.c0, oc (by decide) S.c4, oc (by decide) S.c5, W.heap.size, 1, ?_, lz, by simp, fun i x hx => ?_⟩
  · exact (h1.set rfl _).kep k2 (n _)
  · rcases i with _ | i
    · have : (30 : Int) = x := by simpa using hx
      subst this
      exact cell_of_row _ _ 0 _ _ _ hb
    · simp at hx

/-- the market is made, and the desk has it -/
theorem OpB.desk {w : World} {rs : List Int} {W W1 : World} (S : OpB w rs W) {L : PL} (R : PRep W1 L (newM 4 2 rs)) (k : Kep non W W1) (fr : ∀ b, L.S (newM 4 2 rs) b → W.heap.size ≤ b) (hrb : W.heap.size ≤ L.rb ∧ W.heap.size ≤ L.bb) (h1 : 1 ≤ rs.length) {W2 : World}
    (k2 : Kep (fun b => b = w.heap.size) W1 W2) (c0 : Own W2 ⟨w.heap.size, 0, none⟩ (.pointer (some ⟨L.x, 0, none⟩))) (c5 : Own W2 ⟨w.heap.size, 5, none⟩ (.slice (some ⟨W1.heap.size, 0, none⟩) 2 2)) (hc : ∀ j u, j ≠ 0 → j ≠ 5 → Own W1 ⟨w.heap.size, j, none⟩ u → Own W2 ⟨w.heap.size, j, none⟩ u) (hp : W2.heap[W1.heap.size]? = some (.cells #[.int .i64 0, .int .i64 0] 3 (0, 0))) : Desk w rs L.x 0 0 0 (newM 4 2 rs) W2 := by
  obtain ⟨rb, cap, r1, r2, r3, r4⟩ := S.rr
  have n : ∀ b, ¬ non b := fun _ f => f
  have lz := S.c0.lt
  have lW := k.size
  have lS := R.lt (by show 1 ≤ 4; decide) (by show 1 ≤ 2; decide)
  have lrb := R.rblt h1
  have nd : ¬ L.S (newM 4 2 rs) w.heap.size := fun f => by have := fr _ f; omega
  have np : ¬ L.S (newM 4 2 rs) W1.heap.size := fun f => by have := lS _ f; omega
  refine ⟨L, _, W1.heap.size, rfl, ⟨(S.kp.trans k).trans' k2 (fun i hi => .inr (by omega)), R.keep k2 (fun b hb e => nd (e ▸ hb)) (by omega) (by omega), c0, hc 3 _ (by decide) (by decide) (r1.kep k (n _)), hc 4 _ (by decide) (by decide) (S.c4.kep k (n _)), c5, ⟨cell_of_row _ _ 0 _ _ _ hp, frozen_of_row _ _ 0 _ _ hp⟩, ⟨cell_of_row _ _ 1 _ _ _ hp, frozen_of_row _ _ 1 _ _ hp⟩, ⟨rb, cap, rfl, by have := k2.size; omega, by omega, by omega, fun f => by have := fr _ f; omega, fun i x hx => k2.cell (k.cell (r4 i x hx) (n _)) (by show ¬ rb = w.heap.size; omega)⟩, nd, np, by omega, ⟨by omega, by omega, by omega, by omega⟩, fun b hb => by have := fr b hb; have := S.kp.size; omega, ⟨Nat.le_refl _, by have := S.kp.size; omega⟩⟩⟩
end

end Go.Proofs.Ytcfoobhihhndjaa
