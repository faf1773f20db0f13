/- The program's market: stock. -/
import Derived.Test.YtcbfmolebomkdaaP
namespace Go.Proofs.Ytcbfmolebomkdaa
open Go.RowKit Go.Sort

/-- a stock under way -/
structure StkSt (w : World) (h g x c : Int) (wr : World) : Prop where
  kp : Keeps [] w wr
  r : ∀ j, j < 5 → Own wr ⟨w.heap.size, j, none⟩ (.int .i64 0)
  a0 : Own wr ⟨w.heap.size + 1, 0, none⟩ (.int .i64 h)
  a1 : Own wr ⟨w.heap.size + 1, 1, none⟩ (.int .i64 g)
  a2 : Own wr ⟨w.heap.size + 1, 2, none⟩ (.int .i64 x)
  a3 : Own wr ⟨w.heap.size + 1, 3, none⟩ (.int .i64 0)
  a4 : Own wr ⟨w.heap.size + 1, 4, none⟩ (.int .i64 c)

theorem StkSt.later {w : World} {h g x c : Int} {wr wr' : World} (s : StkSt w h g x c wr) (k : Keeps [] wr wr') : StkSt w h g x c wr' :=
  ⟨s.kp.trans k, fun j hj => (s.r j hj).keep k (by simp), s.a0.keep k (by simp), s.a1.keep k (by simp), s.a2.keep k (by simp), s.a3.keep k (by simp), s.a4.keep k (by simp)⟩

theorem StkSt.set {w : World} {h g x c : Int} {wr : World} (s : StkSt w h g x c wr) (d : Int) : StkSt w h g x d (wr.setCell ⟨w.heap.size + 1, 4, none⟩ (.int .i64 d)) := by
  have ne : ∀ j, j ≠ 4 → (⟨w.heap.size + 1, j, none⟩ : Addr) ≠ ⟨w.heap.size + 1, 4, none⟩ := fun j hj q => by injection q with _ q _; exact hj q
  exact ⟨s.kp.setCell (.inr (by simp)) _, fun j hj => (s.r j hj).set_other (by intro q; injection q with q _ _; omega) rfl rfl _, s.a0.set_other (ne 0 (by decide)) rfl rfl _, s.a1.set_other (ne 1 (by decide)) rfl rfl _, s.a2.set_other (ne 2 (by decide)) rfl rfl _, s.a3.set_other (ne 3 (by decide)) rfl rfl _, s.a4.set rfl _⟩

theorem StkSt.start (w : World) (h g x : Int) : StkSt w h g x 0 ((w.alloc (.cells #[.int .i64 0, .int .i64 0, .int .i64 0, .int .i64 0, .int .i64 0] 63)).alloc (.cells #[.int .i64 h, .int .i64 g, .int .i64 x, .int .i64 0, .int .i64 0] 63)) := by
  have h0 := heap_alloc2_old w (.cells #[.int .i64 0, .int .i64 0, .int .i64 0, .int .i64 0, .int .i64 0] 63) (.cells #[.int .i64 h, .int .i64 g, .int .i64 x, .int .i64 0, .int .i64 0] 63)
  have h1 := heap_alloc2_new w (.cells #[.int .i64 0, .int .i64 0, .int .i64 0, .int .i64 0, .int .i64 0] 63) (.cells #[.int .i64 h, .int .i64 g, .int .i64 x, .int .i64 0, .int .i64 0] 63)
  have c0 := fun j => cell_of_row _ _ j _ _ _ h0
  have c1 := fun j => cell_of_row _ _ j _ _ _ h1
  have f0 := fun j => frozen_of_row _ _ j _ _ h0
  have f1 := fun j => frozen_of_row _ _ j _ _ h1
  refine ⟨((Keeps.refl _ _).alloc _).alloc _, fun j hj => ⟨?_, f0 j⟩, ⟨c1 0, f1 0⟩, ⟨c1 1, f1 1⟩, ⟨c1 2, f1 2⟩, ⟨c1 3, f1 3⟩, ⟨c1 4, f1 4⟩⟩
  rw [c0 j]
  rcases j with _ | _ | _ | _ | _ | j
  all_goals first | rfl | omega

theorem five_set {w : World} {b : Nat} {u : Value} (h : ∀ j, j < 5 → Own w ⟨b, j, none⟩ u) (v0 v1 v2 v3 v4 : Value) :
    let W := ((((w.setCell ⟨b, 0, none⟩ v0).setCell ⟨b, 1, none⟩ v1).setCell ⟨b, 2, none⟩ v2).setCell ⟨b, 3, none⟩ v3).setCell ⟨b, 4, none⟩ v4
    W.cell? ⟨b, 0, none⟩ = some v0 ∧ W.cell? ⟨b, 1, none⟩ = some v1 ∧ W.cell? ⟨b, 2, none⟩ = some v2 ∧ W.cell? ⟨b, 3, none⟩ = some v3 ∧ W.cell? ⟨b, 4, none⟩ = some v4 := by
  have ne : ∀ i j : Nat, i ≠ j → (⟨b, i, none⟩ : Addr) ≠ ⟨b, j, none⟩ := fun i j hj q => by injection q with _ q _; exact hj q
  have o : ∀ {W : World} {i : Nat} {x : Value} (j : Nat) (y : Value), Own W ⟨b, i, none⟩ x → i ≠ j → Own (W.setCell ⟨b, j, none⟩ y) ⟨b, i, none⟩ x := fun j y hx hij => hx.set_other (ne _ _ hij) rfl rfl y
  exact ⟨(o 4 v4 (o 3 v3 (o 2 v2 (o 1 v1 ((h 0 (by decide)).set rfl v0) (by decide)) (by decide)) (by decide)) (by decide)).cell,
    (o 4 v4 (o 3 v3 (o 2 v2 ((o 0 v0 (h 1 (by decide)) (by decide)).set rfl v1) (by decide)) (by decide)) (by decide)).cell,
    (o 4 v4 (o 3 v3 ((o 1 v1 (o 0 v0 (h 2 (by decide)) (by decide)) (by decide)).set rfl v2) (by decide)) (by decide)).cell,
    (o 4 v4 ((o 2 v2 (o 1 v1 (o 0 v0 (h 3 (by decide)) (by decide)) (by decide)) (by decide)).set rfl v3) (by decide)).cell,
    ((o 3 v3 (o 2 v2 (o 1 v1 (o 0 v0 (h 4 (by decide)) (by decide)) (by decide)) (by decide)) (by decide)).set rfl v4).cell⟩

set_option maxRecDepth 100000 in
set_option maxHeartbeats 1000000 in
theorem stock_any (w : World) (L : PL) (m : Mk) (N : Int) (R : PRep w L m) (ok : m.Ok N) (t h g : Nat) (ht : t < m.T) (hh : h < 4) (hg : g < 4) :
    Calls Try.prog 58 #[.pointer (some ⟨L.x, 0, none⟩), .int .i64 t, .int .i64 h, .int .i64 g] w fun e w' => e = .returned (.agg #[.int .i64 h, .int .i64 g, .int .i64 (m.pc t h g), .int .i64 0, .int .i64 (come t h g m.ld)]) ∧ Keeps [] w w' := by
  obtain ⟨la, lc, hlv⟩ : ∃ a c, L.lv = .slice a m.ld.length c := by
    rcases R.ld.2 with ⟨h1, h2⟩ | ⟨_, _, _, h1, _⟩
    · exact ⟨none, 0, by rw [h1, h2]⟩
    · exact ⟨_, _, h1⟩
  have R1 : ∀ o, PRep (w.alloc o) L m := fun o => R.keep (S := []) ((Keeps.refl _ _).alloc o) (by simp)
  have R2 : ∀ o o', PRep ((w.alloc o).alloc o') L m := fun o o' => (R1 o).keep (S := []) ((Keeps.refl _ _).alloc o') (by simp)
  have c2 : ∀ o, (w.alloc o).cell? ⟨L.x, 2, none⟩ = some (.slice (some ⟨L.ab, 0, none⟩) m.T m.T) := fun o => (R1 o).cA.cell
  have c3 : ∀ o o', ((w.alloc o).alloc o').cell? ⟨L.x, 3, none⟩ = some (.slice la m.ld.length lc) := fun o o' => hlv ▸ (R2 o o').cL.cell
  have cp : ∀ o, (w.alloc o).cell? ⟨L.ab, t * 17 + 1 + h * 4 + g, none⟩ = some (.int .i64 (m.pc t h g)) := fun o => ((R1 o).pc t h g ht hh hg).cell
  have hl := hlv ▸ R.ld
  have hb : Hid (∀ l, l ∈ m.ld → 0 ≤ l.n ∧ l.n ≤ 10000) := hide fun l hl => by have := (ok.ld l hl).2.2.2.1; omega
  have l20 := ok.l20
  have bT := ok.T8
  have S0 := StkSt.start w h g (m.pc t h g)
  clear R R1 R2 ok hlv
  go_enter Try.func58, Try.ntmps58
  go_wp2
  generalize (w.alloc (.cells #[.int .i64 0, .int .i64 0, .int .i64 0, .int .i64 0, .int .i64 0] 63)).alloc (.cells #[.int .i64 h, .int .i64 g, .int .i64 (m.pc t h g), .int .i64 0, .int .i64 0] 63) = W0 at *
  clear c2 c3 cp
  go_loopw [32] (fun i wr => ∃ k : Nat, k ≤ m.ld.length ∧ i = .int .i64 k ∧ StkSt w h g (m.pc t h g) (come t h g (m.ld.take k)) wr) (fun i _ => m.ld.length - (intOf i).toNat)
  case atStart => exact ⟨0, Nat.zero_le _, rfl, by simpa [come] using S0⟩
  case round =>
    clear S0
    obtain ⟨k, hk, rfl, S⟩ := hrel
    by_cases hlt : k < m.ld.length
    · have hlr := ownsRow_keep hl S.kp (by simp)
      obtain ⟨lb, cap', hv, q0, q1, q2, q3, q4⟩ := load_cells hlr k hlt
      simp only [Value.slice.injEq, true_and] at hv
      obtain ⟨rfl, rfl⟩ := hv
      have HS := hide (come_snoc t h g m.ld k hlt)
      have hbk := hb.out m.ld[k] (by simp)
      have hbb := come_bd t h g (m.ld.take k) (fun l hl => hb.out l (List.mem_of_mem_take hl))
      have hll : (m.ld.take k).length = k := by simp; omega
      rw [hll] at hbb
      clear hll hlr
      generalize m.ld[k] = l at *
      generalize come (t : Int) (h : Int) (g : Int) (m.ld.take k) = y at *
      have a4 : ∀ o, (wr.alloc o).cell? ⟨w.heap.size + 1, 4, none⟩ = some (.int .i64 y) := fun o => (S.a4.keep (S := []) ((Keeps.refl _ _).alloc o) (by simp)).cell
      have f4 : ∀ o, (wr.alloc o).frozen? ⟨w.heap.size + 1, 4, none⟩ = false := fun o => (S.a4.keep (S := []) ((Keeps.refl _ _).alloc o) (by simp)).free
      have lw : w.heap.size + 1 < wr.heap.size := S.a4.lt
      have HT := hide S
      clear S hl
      go_wp2
      all_goals refine ⟨⟨k + 1, by omega, by go_num, ?_⟩, by simp [intOf]; omega⟩
      all_goals rw [HS.out]
      all_goals first
        | (rw [if_pos ⟨‹_›, ‹_›, by simpa using ‹(l.g == (g : Int)) = true›⟩]; exact (HT.out.set _).later ((Keeps.refl [] _).alloc _))
        | (rw [if_neg (by simp_all), Int.add_zero]; exact HT.out.later ((Keeps.refl [] _).alloc _))
    · have e1 : k = m.ld.length := by omega
      subst e1
      have HS := hide S
      obtain ⟨s0, t0⟩ := S.r 0 (by decide)
      obtain ⟨s1, t1⟩ := S.r 1 (by decide)
      obtain ⟨s2, t2⟩ := S.r 2 (by decide)
      obtain ⟨s3, t3⟩ := S.r 3 (by decide)
      obtain ⟨s4, t4⟩ := S.r 4 (by decide)
      have a0 := S.a0.cell
      have a1 := S.a1.cell
      have a2 := S.a2.cell
      have a3 := S.a3.cell
      have a4 := S.a4.cell
      rw [List.take_of_length_le (Nat.le_refl _)] at *
      clear S
      go_wp2
      have T := five_set HS.out.r (.int .i64 h) (.int .i64 g) (.int .i64 (m.pc t h g)) (.int .i64 0) (.int .i64 (come t h g m.ld))
      refine bodyPost_ret (v := .agg #[.int .i64 h, .int .i64 g, .int .i64 (m.pc t h g), .int .i64 0, .int .i64 (come t h g m.ld)]) (by simp [results, Try.results58, go_sem, T.1, T.2.1, T.2.2.1, T.2.2.2.1, T.2.2.2.2]) rfl ⟨rfl, ?_⟩
      exact ((((HS.out.kp.setCell (.inr (by simp)) _).setCell (.inr (by simp)) _).setCell (.inr (by simp)) _).setCell (.inr (by simp)) _).setCell (.inr (by simp)) _

end Go.Proofs.Ytcbfmolebomkdaa
