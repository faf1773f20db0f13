/- Book. -/
import Derived.Test.YtcfoobhihhndjaaLv
namespace Go.Proofs.Ytcfoobhihhndjaa

section
open Go.RowKit Go.Sort

/-- Book: two rows of levels, new ones, apart -/
def BookPost (w : World) (m : Mt) (h g : Nat) (e : Ending) (w' : World) : Prop :=
  ∃ v u B, e = .returned (.tuple #[v, u, .int .i64 0]) ∧ w'.ownsRow w.heap.size 69 3 v (lvL (m.bk h g 0)).length (lvCells (lvL (m.bk h g 0))) ∧ w'.ownsRow B 69 3 u (lvL (m.bk h g 1)).length (lvCells (lvL (m.bk h g 1))) ∧ w.heap.size < B ∧ B < w'.heap.size ∧ (∀ b, v.ownBlock = some b → b < B) ∧ Below w.heap.size w w'

set_option maxRecDepth 100000 in
set_option maxHeartbeats 4000000 in
theorem book_any (w : World) (L : PL) (m : Mt) (N : Int) (R : PRep w L m) (ok : m.Ok N) (h g : Nat) (hh : h < m.H) (hg : g < m.G) :
    Calls Try.prog 23 #[.pointer (some ⟨L.x, 0, none⟩), .int .i64 h, .int .i64 g] w (BookPost w m h g) := by
  have HCk := hide (show Calls Try.prog 50 #[.pointer (some ⟨L.x, 0, none⟩), .int .i64 h, .int .i64 g] w fun e w' => e = .returned (.int .i64 0) ∧ w = w' from by
    have := checkBook_any w L m N h g R ok
    have e : bookE m h g = 0 := by
      unfold bookE
      rw [if_pos ⟨by omega, by omega⟩, if_pos ⟨by omega, by omega⟩]
    rw [e] at this
    exact this.mono fun e w' h => ⟨h.1, h.2.symm⟩)
  have HL := hide (fun s (q : at3 m h g s) W (S : Below w.heap.size w W) => levels_any W L m N (R.bel S) ok h g s q)
  have HC := hide (show ∀ W, Below w.heap.size w W → W.cell? ⟨L.gb h, g * 5, none⟩ = some (.pointer (some ⟨L.qb h g 0, 0, none⟩)) ∧ W.cell? ⟨L.gb h, g * 5 + 1, none⟩ = some (.pointer (some ⟨L.qb h g 1, 0, none⟩)) from fun W S =>
    ⟨((R.bel S).sd h g 0 ⟨hh, hg, by decide⟩).cell, ((R.bel S).sd h g 1 ⟨hh, hg, by decide⟩).cell⟩)
  have HL0 := hide (HL.out 0 ⟨hh, hg, by decide⟩)
  have HL1 := hide (HL.out 1 ⟨hh, hg, by decide⟩)
  have c4 := R.cB.cell
  have cb := R.bks h hh
  have hh' : (h : Int) < (m.H : Int) := by omega
  have hg' : (g : Int) < (m.G : Int) := by omega
  obtain ⟨s0, s1⟩ := HC.out w (Below.refl _ _)
  clear R ok HL
  go_enter Try.func23, Try.ntmps23
  go_wp2_with (go_at_call 50; refine HCk.out.mono ?_; rintro e w' ⟨rfl, rfl⟩)
  clear HCk
  have HB0 := hide (show Below w.heap.size w w.drew from (Below.refl _ _).drew)
  refine wp_region_any (by kernel_rfl) ?_
  change wpAny _ _ _ _ _ _ _ (World.drew _)
  refine wpAny_take (i := 0) (v := .pointer (some ⟨L.gb h, g * 5, none⟩)) rfl (by kernel_rfl) (by kernel_rfl) (by kernel_rfl) (fun _ _ _ h => h) (Or.inl ⟨by rfl, fun w => by go_simp⟩) ?_
  refine wpAny_take (i := 1) (v := .pointer (some ⟨L.gb h, g * 5, none⟩)) rfl (by kernel_rfl) (by kernel_rfl) (by kernel_rfl) (fun _ _ _ h => h) (Or.inl ⟨by rfl, fun w => by go_simp⟩) ?_
  refine wpAny_take (i := 2) (v := .pointer (some ⟨L.gb h, g * 5, none⟩)) rfl (by kernel_rfl) (by kernel_rfl) (by kernel_rfl) (fun _ _ _ h => h) (Or.inl ⟨by rfl, fun w => by go_simp⟩) ?_
  refine wpAny_take (i := 3) (v := .pointer (some ⟨L.gb h, g * 5, none⟩)) rfl (by kernel_rfl) (by kernel_rfl) (by kernel_rfl) (fun _ _ _ h => h) (Or.inl ⟨by rfl, fun w => by go_simp⟩) ?_
  refine wpAny_take (i := 6) (v := .pointer (some ⟨L.gb h, g * 5, none⟩)) rfl (by kernel_rfl) (by kernel_rfl) (by kernel_rfl) (fun _ _ _ h => h) (Or.inl ⟨by rfl, fun w => by go_simp⟩) ?_
  refine wpAny_take (i := 7) (v := .pointer (some ⟨L.gb h, g * 5, none⟩)) rfl (by kernel_rfl) (by kernel_rfl) (by kernel_rfl) (fun _ _ _ h => h) (Or.inl ⟨by rfl, fun w => by go_simp⟩) ?_
  refine wpAny_take (i := 8) (v := .pointer (some ⟨L.gb h, g * 5, none⟩)) rfl (by kernel_rfl) (by kernel_rfl) (by kernel_rfl) (fun _ _ _ h => h) (Or.inl ⟨by rfl, fun w => by go_simp⟩) ?_
  refine wpAny_take (i := 9) (v := .pointer (some ⟨L.gb h, g * 5 + 1, none⟩)) rfl (by kernel_rfl) (by kernel_rfl) (by kernel_rfl) (fun _ _ _ h => h) (Or.inl ⟨by rfl, fun w => by go_simp⟩) ?_
  refine wpAny_ready (rs := [4, 10]) (by kernel_rfl) (by simp) ?_
  refine AllReady.cons rfl (fun K hK => ?_) ?_
  · go_simp
    refine hK _ _ ?_
    clear hK K
    refine wpAny_ready (rs := [5, 10]) (by kernel_rfl) (by simp) ?_
    refine AllReady.cons rfl (fun K hK => ?_) ?_
    · go_simp
      refine (HL0.out _ HB0.out).mono ?_
      rintro e w1 ⟨v, rfl, r1, b1, z1'⟩
      have hB1 : Below w.heap.size w w1 := HB0.out.trans b1
      have s2 := (HC.out _ hB1).2
      refine hK _ _ ?_
      clear hK K
      refine wpAny_ready (rs := [10]) (by kernel_rfl) (by simp) ?_
      refine AllReady.cons rfl (fun K hK => ?_) AllReady.nil
      go_simp
      refine hK _ _ ?_
      clear hK K
      refine wpAny_ready (rs := [11]) (by kernel_rfl) (by simp) ?_
      refine AllReady.cons rfl (fun K hK => ?_) AllReady.nil
      go_simp
      refine (HL1.out _ hB1).mono ?_
      rintro e w2 ⟨u, rfl, r2, b2, z2'⟩
      refine hK _ _ ?_
      clear hK K
      refine wpAny_ready (rs := [12]) (by kernel_rfl) (by simp) ?_
      refine AllReady.cons rfl (fun K hK => ?_) AllReady.nil
      go_simp
      refine hK _ _ ?_
      clear hK K
      refine wpAny_ready (rs := [13]) (by kernel_rfl) (by simp) ?_
      refine AllReady.cons rfl (fun K hK => ?_) AllReady.nil
      go_simp
      refine hK _ _ ?_
      clear hK K
      refine wpAny_ready (rs := [14]) (by kernel_rfl) (by simp) ?_
      refine AllReady.cons rfl (fun K hK => ?_) AllReady.nil
      go_simp
      refine hK _ _ ?_
      clear hK K
      refine wpAny_done (by kernel_rfl) ?_ _
      have l1 := fun b hb => (r1.lt b hb).2
      have z1 := hB1.size
      have HP := hide (show BookPost w m h g (.returned (.tuple #[v, u, .int .i64 0])) w2 from ⟨v, u, w1.heap.size, rfl, ownsRow_kep r1 (Kep.of_below (S := non) b2) (fun _ _ f => f), r2, by rw [World.size_drew] at z1'; exact z1', z2', l1, hB1.trans (b2.mono z1)⟩)
      clear r1 r2 b1 b2 hB1 HL0 HL1 HC s2
      go_wp2
      exact bodyPost_ret (v := .tuple #[v, u, .int .i64 0]) (by simp [results, Try.results23, go_sem]) rfl HP.out
    refine AllReady.cons rfl (fun K hK => ?_) AllReady.nil
    go_simp
    refine hK _ _ ?_
    clear hK K
    refine wpAny_ready (rs := [5]) (by kernel_rfl) (by simp) ?_
    refine AllReady.cons rfl (fun K hK => ?_) AllReady.nil
    go_simp
    refine (HL0.out _ HB0.out).mono ?_
    rintro e w1 ⟨v, rfl, r1, b1, z1'⟩
    have hB1 : Below w.heap.size w w1 := HB0.out.trans b1
    have s2 := (HC.out _ hB1).2
    refine hK _ _ ?_
    clear hK K
    refine wpAny_ready (rs := [11]) (by kernel_rfl) (by simp) ?_
    refine AllReady.cons rfl (fun K hK => ?_) AllReady.nil
    go_simp
    refine (HL1.out _ hB1).mono ?_
    rintro e w2 ⟨u, rfl, r2, b2, z2'⟩
    refine hK _ _ ?_
    clear hK K
    refine wpAny_ready (rs := [12]) (by kernel_rfl) (by simp) ?_
    refine AllReady.cons rfl (fun K hK => ?_) AllReady.nil
    go_simp
    refine hK _ _ ?_
    clear hK K
    refine wpAny_ready (rs := [13]) (by kernel_rfl) (by simp) ?_
    refine AllReady.cons rfl (fun K hK => ?_) AllReady.nil
    go_simp
    refine hK _ _ ?_
    clear hK K
    refine wpAny_ready (rs := [14]) (by kernel_rfl) (by simp) ?_
    refine AllReady.cons rfl (fun K hK => ?_) AllReady.nil
    go_simp
    refine hK _ _ ?_
    clear hK K
    refine wpAny_done (by kernel_rfl) ?_ _
    have l1 := fun b hb => (r1.lt b hb).2
    have z1 := hB1.size
    have HP := hide (show BookPost w m h g (.returned (.tuple #[v, u, .int .i64 0])) w2 from ⟨v, u, w1.heap.size, rfl, ownsRow_kep r1 (Kep.of_below (S := non) b2) (fun _ _ f => f), r2, by rw [World.size_drew] at z1'; exact z1', z2', l1, hB1.trans (b2.mono z1)⟩)
    clear r1 r2 b1 b2 hB1 HL0 HL1 HC s2
    go_wp2
    exact bodyPost_ret (v := .tuple #[v, u, .int .i64 0]) (by simp [results, Try.results23, go_sem]) rfl HP.out
  refine AllReady.cons rfl (fun K hK => ?_) AllReady.nil
  go_simp
  refine hK _ _ ?_
  clear hK K
  refine wpAny_ready (rs := [4]) (by kernel_rfl) (by simp) ?_
  refine AllReady.cons rfl (fun K hK => ?_) AllReady.nil
  go_simp
  refine hK _ _ ?_
  clear hK K
  refine wpAny_ready (rs := [5]) (by kernel_rfl) (by simp) ?_
  refine AllReady.cons rfl (fun K hK => ?_) AllReady.nil
  go_simp
  refine (HL0.out _ HB0.out).mono ?_
  rintro e w1 ⟨v, rfl, r1, b1, z1'⟩
  have hB1 : Below w.heap.size w w1 := HB0.out.trans b1
  have s2 := (HC.out _ hB1).2
  refine hK _ _ ?_
  clear hK K
  refine wpAny_ready (rs := [11]) (by kernel_rfl) (by simp) ?_
  refine AllReady.cons rfl (fun K hK => ?_) AllReady.nil
  go_simp
  refine (HL1.out _ hB1).mono ?_
  rintro e w2 ⟨u, rfl, r2, b2, z2'⟩
  refine hK _ _ ?_
  clear hK K
  refine wpAny_ready (rs := [12]) (by kernel_rfl) (by simp) ?_
  refine AllReady.cons rfl (fun K hK => ?_) AllReady.nil
  go_simp
  refine hK _ _ ?_
  clear hK K
  refine wpAny_ready (rs := [13]) (by kernel_rfl) (by simp) ?_
  refine AllReady.cons rfl (fun K hK => ?_) AllReady.nil
  go_simp
  refine hK _ _ ?_
  clear hK K
  refine wpAny_ready (rs := [14]) (by kernel_rfl) (by simp) ?_
  refine AllReady.cons rfl (fun K hK => ?_) AllReady.nil
  go_simp
  refine hK _ _ ?_
  clear hK K
  refine wpAny_done (by kernel_rfl) ?_ _
  have l1 := fun b hb => (r1.lt b hb).2
  have z1 := hB1.size
  have HP := hide (show BookPost w m h g (.returned (.tuple #[v, u, .int .i64 0])) w2 from ⟨v, u, w1.heap.size, rfl, ownsRow_kep r1 (Kep.of_below (S := non) b2) (fun _ _ f => f), r2, by rw [World.size_drew] at z1'; exact z1', z2', l1, hB1.trans (b2.mono z1)⟩)
  clear r1 r2 b1 b2 hB1 HL0 HL1 HC s2
  go_wp2
  exact bodyPost_ret (v := .tuple #[v, u, .int .i64 0]) (by simp [results, Try.results23, go_sem]) rfl HP.out

end

end Go.Proofs.Ytcfoobhihhndjaa
