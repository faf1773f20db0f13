/- The law: step. -/
import Derived.Test.YtcbfmolebomkdaaLr
namespace Go.Proofs.Ytcbfmolebomkdaa
open Go.RowKit

theorem pick_fn (c : Int) (n : Nat) (h0 : -9223372036854775808 ≤ c) (h1 : c ≤ 9223372036854775807) (hn : 1 ≤ n) (hn2 : n ≤ 10000000) : ∃ k : Nat, (∀ w : World, Calls Try.prog 10 #[.int .i64 c, .int .i64 n] w fun e w' => e = .returned (.int .i64 k) ∧ w' = w) ∧ k < n := by
  by_cases hc : c < 0
  · obtain ⟨j, hj⟩ := Int.eq_ofNat_of_zero_le (by omega : 0 ≤ -(c + 1))
    have HJ := hide (show c + 1 = -(j : Int) by omega)
    clear hj
    refine ⟨j % n, fun w => ?_, Nat.mod_lt _ hn⟩
    go_enter Try.func10, Try.ntmps10
    go_wp2
    go_ret
    refine ⟨ret_int' ?_, rfl⟩
    rw [HJ.out, Int.neg_tmod, Int.neg_neg, Int.tmod_eq_emod_of_nonneg (by omega), Int.natCast_emod]
  · obtain ⟨c, rfl⟩ := Int.eq_ofNat_of_zero_le (by omega : 0 ≤ c)
    refine ⟨c % n, fun w => ?_, Nat.mod_lt _ hn⟩
    go_enter Try.func10, Try.ntmps10
    go_wp2
    go_ret
    exact ⟨ret_int' rfl, rfl⟩

/-- what a step leaves -/
def StepPost (a d : Nat) (w : World) (B0 p : Nat) (N : Int) (s : St) (w' : World) : Prop := ∃ s', Inv B0 p (N + 200000) s' w' ∧ s'.n ≤ s.n + d ∧ s.n + a ≤ s'.n ∧ s'.al.length ≤ s.al.length + 1 ∧ s'.es.length ≤ s.es.length + 1 ∧ Below B0 w w' ∧ ∀ b, b < w.heap.size → Dead s p b → w'.heap[b]? = w.heap[b]? ∧ Dead s' p b

theorem Inv.mono {B0 p : Nat} {N N' : Int} {s : St} {w : World} (h : Inv B0 p N s w) (hN : N ≤ N') (bN : N' ≤ 1000000000000) : Inv B0 p N' s w :=
  ⟨h.b0, h.c0, h.c1, h.c2, h.c3, h.c4, h.c5, h.rps, h.ra, h.re, h.rx, h.rc, fun i hi => ok_mono (h.ok i hi) hN bN, h.sep, h.low, h.sh, h.ct⟩

theorem StepPost.same {w w' : World} {B0 p : Nat} {N : Int} {s : St} (h : Inv B0 p N s w) (bN : N ≤ 900000000000) (k : Keeps [] w w') : StepPost 0 0 w B0 p N s w' :=
  ⟨s, (h.later k).mono (by omega) (by omega), by omega, by omega, by omega, by omega, k.below h.b0 (by simp), fun b hb q => ⟨k.block b hb (by simp), q⟩⟩

theorem StepPost.intro {a d : Nat} {w W w' : World} {B0 p : Nat} {N N1 : Int} {s s' : St} {S : List Nat} (h : Inv B0 p N s w) (kW : Keeps [] w W) (k : Keeps S W w') (hS : ∀ b, b ∈ S → ∃ ix, b ∈ s.F p ix) (i1 : Inv B0 p N1 s' w') (hN : N1 ≤ N + 200000) (bN : N ≤ 900000000000)
    (hd : s'.n ≤ s.n + d) (ha : s.n + a ≤ s'.n) (hal : s'.al.length ≤ s.al.length + 1) (hes : s'.es.length ≤ s.es.length + 1) (i5 : ∀ b, b < W.heap.size → Dead s p b → Dead s' p b) : StepPost a d w B0 p N s w' := by
  refine ⟨s', i1.mono hN (by omega), hd, ha, hal, hes, (kW.below h.b0 (by simp)).trans (k.below (h.later kW).b0 (fun b hb => ?_)), fun b hb q => ?_⟩
  · obtain ⟨ix, q⟩ := hS b hb
    exact h.low ix b q
  · have hb2 := Nat.lt_of_lt_of_le hb kW.size
    refine ⟨(k.block b hb2 (fun q' => ?_)).trans (kW.block b hb (by simp)), i5 b hb2 q⟩
    obtain ⟨ix, q''⟩ := hS b q'
    exact q ix q''

theorem StepPost.wide {a d a' d' : Nat} {w w' : World} {B0 p : Nat} {N : Int} {s : St} (h : StepPost a d w B0 p N s w') (ha : a' ≤ a) (hd : d ≤ d') : StepPost a' d' w B0 p N s w' := by
  obtain ⟨s', h1, h2, h3, h4⟩ := h
  exact ⟨s', h1, by omega, by omega, h4⟩

theorem pair_leaf (W : World) (lx rx : Nat) : ∃ nb, Value.pointer (some ⟨W.heap.size, 0, none⟩) = .pointer (some ⟨nb, 0, none⟩) ∧ Keeps [] W (W.alloc (.cells #[.pointer (some ⟨lx, 0, none⟩), .pointer (some ⟨rx, 0, none⟩)] 48)).drew ∧ (W.alloc (.cells #[.pointer (some ⟨lx, 0, none⟩), .pointer (some ⟨rx, 0, none⟩)] 48)).drew.cell? ⟨nb, 0, none⟩ = some (.pointer (some ⟨lx, 0, none⟩)) ∧ (W.alloc (.cells #[.pointer (some ⟨lx, 0, none⟩), .pointer (some ⟨rx, 0, none⟩)] 48)).drew.cell? ⟨nb, 1, none⟩ = some (.pointer (some ⟨rx, 0, none⟩)) := by
  have z := fun j => cell_of_row _ _ j _ _ _ (heap_alloc_new W (.cells #[.pointer (some ⟨lx, 0, none⟩), .pointer (some ⟨rx, 0, none⟩)] 48))
  have z0 := z 0
  have z1 := z 1
  simp only [List.getElem?_toArray, List.getElem?_cons_zero, List.getElem?_cons_succ] at z0 z1
  have k := (Keeps.refl [] (W.alloc (.cells #[.pointer (some ⟨lx, 0, none⟩), .pointer (some ⟨rx, 0, none⟩)] 48))).drew
  exact ⟨_, rfl, ((Keeps.refl _ _).alloc _).drew, k.cell z0 (by simp), k.cell z1 (by simp)⟩

end Go.Proofs.Ytcbfmolebomkdaa
