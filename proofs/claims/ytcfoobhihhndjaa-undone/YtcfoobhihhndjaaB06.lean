/- The program's market: newBooks. -/
import Derived.Test.YtcfoobhihhndjaaB05
namespace Go.Proofs.Ytcfoobhihhndjaa

section
open Go.RowKit Go.Sort

/-- where the books of a hall lie, and its queues -/
def gbA (B G h : Nat) : Nat := B + 1 + h * (1 + 2 * G)
def qbA (B G h g s : Nat) : Nat := gbA B G h + 1 + 2 * g + s

theorem gbA_succ (B G h : Nat) : gbA B G (h + 1) = gbA B G h + 1 + 2 * G := by unfold gbA; rw [Nat.add_mul]; omega
theorem gbA_mono (B G : Nat) : ∀ {h k : Nat}, h < k → gbA B G h + 1 + 2 * G ≤ gbA B G k
  | h, 0, hk => by omega
  | h, k + 1, hk => by
    rw [gbA_succ]
    by_cases e : h = k
    · subst e; omega
    · have := gbA_mono B G (h := h) (k := k) (by omega); omega
theorem gbA_le (B G h : Nat) : B < gbA B G h := by unfold gbA; omega

/-- a hall's books, k goods of which have their queues -/
structure NBh (B G h k : Nat) (W : World) : Prop where
  sd : ∀ g s, g < k → s < 2 → Own W ⟨gbA B G h, g * 5 + s, none⟩ (.pointer (some ⟨qbA B G h g s, 0, none⟩))
  nl : ∀ g s, k ≤ g → g < G → s < 2 → Own W ⟨gbA B G h, g * 5 + s, none⟩ (.pointer none)
  nm : ∀ g i, g < G → i < 3 → Own W ⟨gbA B G h, g * 5 + 2 + i, none⟩ (.int .i64 0)
  q0 : ∀ g s, g < k → s < 2 → W.cell? ⟨qbA B G h g s, 0, none⟩ = some (aheadFn s)
  q1 : ∀ g s, g < k → s < 2 → Own W ⟨qbA B G h g s, 1, none⟩ (.slice none 0 0)

theorem NBh.kep {B G h k : Nat} {W W' : World} {S : Nat → Prop} (H : NBh B G h k W) (hk : k ≤ G) (K : Kep S W W') (hS : ∀ b, gbA B G h ≤ b → b < gbA B G h + 1 + 2 * G → ¬ S b) : NBh B G h k W' := by
  have a : ¬ S (gbA B G h) := hS _ (Nat.le_refl _) (by omega)
  have b : ∀ g s, g < k → s < 2 → ¬ S (qbA B G h g s) := fun g s hg hs => hS _ (by unfold qbA; omega) (by unfold qbA; omega)
  exact ⟨fun g s hg hs => (H.sd g s hg hs).kep K a, fun g s h1 h2 hs => (H.nl g s h1 h2 hs).kep K a, fun g i hg hi => (H.nm g i hg hi).kep K a, fun g s hg hs => K.cell (H.q0 g s hg hs) (b g s hg hs), fun g s hg hs => (H.q1 g s hg hs).kep K (b g s hg hs)⟩

def bkRow (B G j h : Nat) : Value := if h < j then .slice (some ⟨gbA B G h, 0, none⟩) G G else .slice none 0 0

/-- j halls have their books -/
structure NBo (w : World) (G H j : Nat) (W : World) : Prop where
  kp : Kep non w W
  sz : W.heap.size = gbA w.heap.size G j
  bb : ∀ h, h < H → Own W ⟨w.heap.size, h, none⟩ (bkRow w.heap.size G j h)
  hs : ∀ h, h < j → NBh w.heap.size G h G W

/-- and the next one those of k goods -/
structure NBi (w : World) (G H j k : Nat) (W : World) : Prop where
  kp : Kep non w W
  sz : W.heap.size = gbA w.heap.size G j + 1 + 2 * k
  bb : ∀ h, h < H → Own W ⟨w.heap.size, h, none⟩ (bkRow w.heap.size G (j + 1) h)
  hs : ∀ h, h < j → NBh w.heap.size G h G W
  hj : NBh w.heap.size G j k W

def booksBlock (G : Nat) : Obj := .cells (madeCells #[.pointer none, .pointer none, .int .i64 0, .int .i64 0, .int .i64 0] (G * 5)) 102
def rowsBlock (H : Nat) : Obj := .cells (madeCells #[.slice none 0 0] (H * 1)) 103

theorem books_at {w : World} {B G : Nat} (h : w.heap[B]? = some (booksBlock G)) (g i : Nat) (hg : g < G) (hi : i < 5) : Own w ⟨B, g * 5 + i, none⟩ (if i < 2 then .pointer none else .int .i64 0) := by
  refine ⟨?_, frozen_of_row w B _ _ _ h⟩
  rw [cell_of_row w B _ _ _ _ h]
  have hk : g * 5 + i < G * 5 := by omega
  have hm : (g * 5 + i) % 5 = i := by omega
  simp only [madeCells]
  simp [hk, hm]
  rcases i with _ | _ | _ | _ | _ | i
  all_goals first | rfl | omega

theorem rows_at {w : World} {B H : Nat} (h : w.heap[B]? = some (rowsBlock H)) (i : Nat) (hi : i < H) : Own w ⟨B, i, none⟩ (.slice none 0 0) := by
  refine ⟨?_, frozen_of_row w B _ _ _ h⟩
  rw [cell_of_row w B _ _ _ _ h]
  have hk : i < H * 1 := by omega
  simp only [madeCells]
  simp [hi]
  rw [Nat.mod_one]
  rfl

theorem NBo.start (w : World) (G H : Nat) : NBo w G H 0 (w.alloc (rowsBlock H)) :=
  ⟨(Kep.refl _ _).alloc _, by simp [gbA], fun h hh => by simpa [bkRow] using rows_at (heap_alloc_new w (rowsBlock H)) h hh, fun h hh => by omega⟩

/-- a hall's books are made and stored -/
theorem NBo.make {w : World} {G H j : Nat} {W : World} (N : NBo w G H j W) (hj : j < H) :
    NBi w G H j 0 ((W.alloc (booksBlock G)).setCell ⟨w.heap.size, j, none⟩ (.slice (some ⟨W.heap.size, 0, none⟩) G G)) := by
  have hz := N.sz
  have hB := gbA_le w.heap.size G j
  have k1 : Kep non W (W.alloc (booksBlock G)) := (Kep.refl _ _).alloc _
  have n : ∀ b, ¬ non b := fun _ f => f
  have k2 : Kep (fun b => b = w.heap.size) (W.alloc (booksBlock G)) ((W.alloc (booksBlock G)).setCell ⟨w.heap.size, j, none⟩ (.slice (some ⟨W.heap.size, 0, none⟩) G G)) := (Kep.refl (fun b => b = w.heap.size) _).setCell (p := ⟨w.heap.size, j, none⟩) (.inl rfl) _
  have hb := heap_alloc_new W (booksBlock G)
  rw [hz] at hb
  refine ⟨(N.kp.trans k1).setCell (p := ⟨w.heap.size, j, none⟩) (.inr (Nat.le_refl _)) _, by simp; omega, fun h hh => ?_, fun h hh => ?_, ?_⟩
  · by_cases e : h = j
    · subst e
      have := ((N.bb h hh).kep k1 (n _)).set (v := bkRow w.heap.size G h h) rfl (.slice (some ⟨W.heap.size, 0, none⟩) G G)
      simpa [bkRow, hz] using this
    · have := ((N.bb h hh).kep k1 (n _)).set_other (q := ⟨w.heap.size, j, none⟩) (by intro q; injection q with _ q _; exact e q) rfl rfl (.slice (some ⟨W.heap.size, 0, none⟩) G G)
      have e2 : bkRow w.heap.size G (j + 1) h = bkRow w.heap.size G j h := by
        unfold bkRow
        by_cases q : h < j
        · rw [if_pos q, if_pos (by omega)]
        · rw [if_neg q, if_neg (by omega)]
      rw [e2]
      exact this
  · have := gbA_mono w.heap.size G hh
    have h0 := gbA_le w.heap.size G h
    exact ((N.hs h hh).kep (Nat.le_refl _) k1 (fun _ _ _ => n _)).kep (Nat.le_refl _) k2 (fun b h1 _ f => by omega)
  · have hk : ∀ {o : Nat} {v : Value}, Own (W.alloc (booksBlock G)) ⟨gbA w.heap.size G j, o, none⟩ v → Own ((W.alloc (booksBlock G)).setCell ⟨w.heap.size, j, none⟩ (.slice (some ⟨W.heap.size, 0, none⟩) G G)) ⟨gbA w.heap.size G j, o, none⟩ v := fun h => h.kep k2 (by show ¬ gbA w.heap.size G j = w.heap.size; omega)
    refine ⟨fun g s hg => by omega, fun g s _ hg hs => ?_, fun g i hg hi => ?_, fun g s hg => by omega, fun g s hg => by omega⟩
    · have := books_at hb g s hg (by omega)
      rw [if_pos hs] at this
      exact hk this
    · have := books_at hb g (2 + i) hg (by omega)
      rw [if_neg (by omega), ← Nat.add_assoc] at this
      exact hk this

def queueBlock (s : Nat) : Obj := .cells #[aheadFn s, .slice none 0 0] 128

/-- a good's two queues are made and stored -/
structure NBq (w : World) (G H j k : Nat) (W : World) : Prop where
  kp : Kep non w W
  sz : W.heap.size = gbA w.heap.size G j + 1 + 2 * k + 1
  bb : ∀ h, h < H → Own W ⟨w.heap.size, h, none⟩ (bkRow w.heap.size G (j + 1) h)
  hs : ∀ h, h < j → NBh w.heap.size G h G W
  sd : ∀ g s, g < k → s < 2 → Own W ⟨gbA w.heap.size G j, g * 5 + s, none⟩ (.pointer (some ⟨qbA w.heap.size G j g s, 0, none⟩))
  s0 : Own W ⟨gbA w.heap.size G j, k * 5, none⟩ (.pointer (some ⟨qbA w.heap.size G j k 0, 0, none⟩))
  s1 : Own W ⟨gbA w.heap.size G j, k * 5 + 1, none⟩ (.pointer none)
  nl : ∀ g s, k < g → g < G → s < 2 → Own W ⟨gbA w.heap.size G j, g * 5 + s, none⟩ (.pointer none)
  nm : ∀ g i, g < G → i < 3 → Own W ⟨gbA w.heap.size G j, g * 5 + 2 + i, none⟩ (.int .i64 0)
  q0 : ∀ g s, g < k → s < 2 → W.cell? ⟨qbA w.heap.size G j g s, 0, none⟩ = some (aheadFn s)
  q1 : ∀ g s, g < k → s < 2 → Own W ⟨qbA w.heap.size G j g s, 1, none⟩ (.slice none 0 0)
  r0 : W.cell? ⟨qbA w.heap.size G j k 0, 0, none⟩ = some (aheadFn 0)
  r1 : Own W ⟨qbA w.heap.size G j k 0, 1, none⟩ (.slice none 0 0)

theorem NBi.first {w : World} {G H j k : Nat} {W : World} (N : NBi w G H j k W) (hk : k < G) :
    NBq w G H j k ((W.alloc (queueBlock 0)).setCell ⟨gbA w.heap.size G j, k * 5, none⟩ (.pointer (some ⟨W.heap.size, 0, none⟩))) := by
  have hz := N.sz
  have hB := gbA_le w.heap.size G j
  have k1 : Kep non W (W.alloc (queueBlock 0)) := (Kep.refl _ _).alloc _
  have n : ∀ b, ¬ non b := fun _ f => f
  have k2 : Kep (fun b => b = gbA w.heap.size G j) (W.alloc (queueBlock 0)) ((W.alloc (queueBlock 0)).setCell ⟨gbA w.heap.size G j, k * 5, none⟩ (.pointer (some ⟨W.heap.size, 0, none⟩))) := (Kep.refl (fun b => b = gbA w.heap.size G j) _).setCell (p := ⟨gbA w.heap.size G j, k * 5, none⟩) (.inl rfl) _
  have hb := heap_alloc_new W (queueBlock 0)
  have oc : ∀ {o : Nat} {v : Value}, o ≠ k * 5 → Own W ⟨gbA w.heap.size G j, o, none⟩ v → Own ((W.alloc (queueBlock 0)).setCell ⟨gbA w.heap.size G j, k * 5, none⟩ (.pointer (some ⟨W.heap.size, 0, none⟩))) ⟨gbA w.heap.size G j, o, none⟩ v := fun ho h => (h.kep k1 (n _)).set_other (by intro q; injection q with _ q _; exact ho q) rfl rfl _
  have e0 : qbA w.heap.size G j k 0 = W.heap.size := by unfold qbA; omega
  have qn : ∀ g s, qbA w.heap.size G j g s ≠ gbA w.heap.size G j := fun g s => by unfold qbA; omega
  refine ⟨(N.kp.trans k1).setCell (p := ⟨gbA w.heap.size G j, k * 5, none⟩) (.inr (by simp only []; omega)) _, by simp; omega, fun h hh => ((N.bb h hh).kep k1 (n _)).kep k2 (by show ¬ w.heap.size = gbA w.heap.size G j; omega), fun h hh => ?_, fun g s hg hs => oc (by omega) (N.hj.sd g s hg hs), ?_, oc (by omega) (N.hj.nl k 1 (Nat.le_refl _) hk (by omega)), fun g s h1 h2 hs => oc (by omega) (N.hj.nl g s (by omega) h2 hs), fun g i hg hi => oc (by omega) (N.hj.nm g i hg hi), fun g s hg hs => k2.cell (k1.cell (N.hj.q0 g s hg hs) (n _)) (qn g s), fun g s hg hs => ((N.hj.q1 g s hg hs).kep k1 (n _)).kep k2 (qn g s), ?_, ?_⟩
  · have := gbA_mono w.heap.size G hh
    exact ((N.hs h hh).kep (Nat.le_refl _) k1 (fun _ _ _ => n _)).kep (Nat.le_refl _) k2 (fun b h1 h2 f => by omega)
  · rw [e0]
    exact ((N.hj.nl k 0 (Nat.le_refl _) hk (by omega)).kep k1 (n _)).set rfl _
  · have c := cell_of_row _ _ 0 _ _ _ hb
    rw [e0]
    exact k2.cell (p := ⟨W.heap.size, 0, none⟩) c (by have := qn k 0; rw [e0] at this; exact this)
  · have c := cell_of_row _ _ 1 _ _ _ hb
    have f := frozen_of_row _ _ 1 _ _ hb
    rw [e0]
    exact (Own.mk (p := ⟨W.heap.size, 1, none⟩) c f).kep k2 (by have := qn k 0; rw [e0] at this; exact this)

theorem NBq.second {w : World} {G H j k : Nat} {W : World} (N : NBq w G H j k W) (hk : k < G) :
    NBi w G H j (k + 1) ((W.alloc (queueBlock 1)).setCell ⟨gbA w.heap.size G j, k * 5 + 1, none⟩ (.pointer (some ⟨W.heap.size, 0, none⟩))) := by
  have hz := N.sz
  have hB := gbA_le w.heap.size G j
  have k1 : Kep non W (W.alloc (queueBlock 1)) := (Kep.refl _ _).alloc _
  have n : ∀ b, ¬ non b := fun _ f => f
  have k2 : Kep (fun b => b = gbA w.heap.size G j) (W.alloc (queueBlock 1)) ((W.alloc (queueBlock 1)).setCell ⟨gbA w.heap.size G j, k * 5 + 1, none⟩ (.pointer (some ⟨W.heap.size, 0, none⟩))) := (Kep.refl (fun b => b = gbA w.heap.size G j) _).setCell (p := ⟨gbA w.heap.size G j, k * 5 + 1, none⟩) (.inl rfl) _
  have hb := heap_alloc_new W (queueBlock 1)
  have oc : ∀ {o : Nat} {v : Value}, o ≠ k * 5 + 1 → Own W ⟨gbA w.heap.size G j, o, none⟩ v → Own ((W.alloc (queueBlock 1)).setCell ⟨gbA w.heap.size G j, k * 5 + 1, none⟩ (.pointer (some ⟨W.heap.size, 0, none⟩))) ⟨gbA w.heap.size G j, o, none⟩ v := fun ho h => (h.kep k1 (n _)).set_other (by intro q; injection q with _ q _; exact ho q) rfl rfl _
  have e1 : qbA w.heap.size G j k 1 = W.heap.size := by unfold qbA; omega
  have qn : ∀ g s, qbA w.heap.size G j g s ≠ gbA w.heap.size G j := fun g s => by unfold qbA; omega
  refine ⟨(N.kp.trans k1).setCell (p := ⟨gbA w.heap.size G j, k * 5 + 1, none⟩) (.inr (by simp only []; omega)) _, by simp; omega, fun h hh => ((N.bb h hh).kep k1 (n _)).kep k2 (by show ¬ w.heap.size = gbA w.heap.size G j; omega), fun h hh => ?_, ?_⟩
  · have := gbA_mono w.heap.size G hh
    exact ((N.hs h hh).kep (Nat.le_refl _) k1 (fun _ _ _ => n _)).kep (Nat.le_refl _) k2 (fun b h1 h2 f => by omega)
  · refine ⟨fun g s hg hs => ?_, fun g s h1 h2 hs => oc (by omega) (N.nl g s (by omega) h2 hs), fun g i hg hi => oc (by omega) (N.nm g i hg hi), fun g s hg hs => ?_, fun g s hg hs => ?_⟩
    · by_cases e : g = k
      · subst e
        rcases s with _ | _ | s
        · exact oc (by omega) N.s0
        · have := (N.s1.kep k1 (n _)).set rfl (.pointer (some ⟨W.heap.size, 0, none⟩))
          rw [show (0 : Nat) + 1 = 1 from rfl, e1]
          exact this
        · omega
      · exact oc (by omega) (N.sd g s (by omega) hs)
    · by_cases e : g = k
      · subst e
        rcases s with _ | _ | s
        · exact k2.cell (k1.cell N.r0 (n _)) (qn g 0)
        · have c := cell_of_row _ _ 0 _ _ _ hb
          rw [show (0 : Nat) + 1 = 1 from rfl, e1]
          exact k2.cell (p := ⟨W.heap.size, 0, none⟩) c (by have := qn g 1; rw [e1] at this; exact this)
        · omega
      · exact k2.cell (k1.cell (N.q0 g s (by omega) hs) (n _)) (qn g s)
    · by_cases e : g = k
      · subst e
        rcases s with _ | _ | s
        · exact (N.r1.kep k1 (n _)).kep k2 (qn g 0)
        · have c := cell_of_row _ _ 1 _ _ _ hb
          have f := frozen_of_row _ _ 1 _ _ hb
          rw [show (0 : Nat) + 1 = 1 from rfl, e1]
          exact (Own.mk (p := ⟨W.heap.size, 1, none⟩) c f).kep k2 (by have := qn g 1; rw [e1] at this; exact this)
        · omega
      · exact ((N.q1 g s (by omega) hs).kep k1 (n _)).kep k2 (qn g s)

theorem NBi.done {w : World} {G H j : Nat} {W : World} (N : NBi w G H j G W) : NBo w G H (j + 1) W := by
  refine ⟨N.kp, by rw [gbA_succ, N.sz], N.bb, fun h hh => ?_⟩
  by_cases e : h = j
  · subst e; exact N.hj
  · exact N.hs h (by omega)

theorem NBo.later {w : World} {G H j : Nat} {W W' : World} (N : NBo w G H j W) (k : Kep non W W') (hz : W'.heap.size = W.heap.size) : NBo w G H j W' :=
  ⟨N.kp.trans k, by rw [hz]; exact N.sz, fun h hh => (N.bb h hh).kep k (fun f => f), fun h hh => (N.hs h hh).kep (Nat.le_refl _) k (fun _ _ _ f => f)⟩
theorem NBi.later {w : World} {G H j i : Nat} {W W' : World} (N : NBi w G H j i W) (hi : i ≤ G) (k : Kep non W W') (hz : W'.heap.size = W.heap.size) : NBi w G H j i W' :=
  ⟨N.kp.trans k, by rw [hz]; exact N.sz, fun h hh => (N.bb h hh).kep k (fun f => f), fun h hh => (N.hs h hh).kep (Nat.le_refl _) k (fun _ _ _ f => f), N.hj.kep hi k (fun _ _ _ f => f)⟩
theorem NBq.later {w : World} {G H j i : Nat} {W W' : World} (N : NBq w G H j i W) (k : Kep non W W') (hz : W'.heap.size = W.heap.size) : NBq w G H j i W' :=
  have n : ∀ b, ¬ non b := fun _ f => f
  ⟨N.kp.trans k, by rw [hz]; exact N.sz, fun h hh => (N.bb h hh).kep k (n _), fun h hh => (N.hs h hh).kep (Nat.le_refl _) k (fun _ _ _ => n _), fun g s a b => (N.sd g s a b).kep k (n _), N.s0.kep k (n _), N.s1.kep k (n _), fun g s a b c => (N.nl g s a b c).kep k (n _), fun g s a b => (N.nm g s a b).kep k (n _), fun g s a b => k.cell (N.q0 g s a b) (n _), fun g s a b => (N.q1 g s a b).kep k (n _), k.cell N.r0 (n _), N.r1.kep k (n _)⟩

set_option maxHeartbeats 4000000 in
set_option maxRecDepth 100000 in
theorem newBooks_any (w : World) (G H : Nat) (hG : G ≤ 4) (hH : H ≤ 4) :
    Calls Try.prog 59 #[.int .i64 H, .int .i64 G] w fun e w' => e = .returned (.slice (some ⟨w.heap.size, 0, none⟩) H H) ∧ NBo w G H H w' := by
  obtain ⟨i0, hi0, hz0, hz1, hz2⟩ := info_parts infoBooks
  obtain ⟨i1, hi1, hy0, hy1, hy2⟩ := info_parts infoBook
  have hmk : ∀ u : World, (Instr.makeSlice 77 (.int .i64 (H : Int)) (.int .i64 (H : Int))).run Try.prog u = .ok (.slice (some ⟨u.heap.size, 0, none⟩) H H) (u.alloc (rowsBlock H)) := fun u => by
    have h := run_make (P := Try.prog) u 77 103 i0 _ Try.underlying77 hi0 hz0 .i64 .i64 (H : Int) (H : Int) (by omega) (Int.le_refl _) (by rw [hz2]; omega) (by omega)
    rw [Int.toNat_natCast, hz1] at h
    exact h
  have hmk2 : ∀ u : World, (Instr.makeSlice 103 (.int .i64 (G : Int)) (.int .i64 (G : Int))).run Try.prog u = .ok (.slice (some ⟨u.heap.size, 0, none⟩) G G) (u.alloc (booksBlock G)) := fun u => by
    have h := run_make (P := Try.prog) u 103 102 i1 _ Try.underlying103 hi1 hy0 .i64 .i64 (G : Int) (G : Int) (by omega) (Int.le_refl _) (by rw [hy2]; omega) (by omega)
    rw [Int.toNat_natCast, hy1] at h
    exact h
  have N0 := NBo.start w G H
  have HQ0 := hide (fun W => queueNew_any W 78)
  have HQ1 := hide (fun W => queueNew_any W 79)
  clear hi0 hz0 hz1 hz2 hi1 hy0 hy1 hy2
  go_enter Try.func59, Try.ntmps59
  go_wp2
  generalize w.alloc (rowsBlock H) = W0 at *
  go_loopw [13] (fun i wr => ∃ j : Nat, j ≤ H ∧ i = .int .i64 j ∧ NBo w G H j wr) (fun i _ => H - (intOf i).toNat)
  case atStart => exact ⟨0, Nat.zero_le _, rfl, N0⟩
  case round =>
    clear N0
    obtain ⟨j, hj, rfl, A⟩ := hrel
    by_cases hlt : j < H
    · have hlt' : (j : Int) < (H : Int) := by omega
      obtain ⟨cb, fb⟩ := A.bb j hlt
      have lz : w.heap.size < wr.heap.size := by rw [A.sz]; exact gbA_le _ _ _
      have hzA := A.sz
      have HI := hide (A.make hlt)
      rw [World.setCell_alloc_past _ _ _ _ lz] at HI
      have cb2 := (((A.bb j hlt).kep ((Kep.refl non wr).alloc (booksBlock G)) (fun f => f)))
      obtain ⟨cb3, fb3⟩ := cb2
      clear A hmk hzA
      go_wp2
      generalize (wr.setCell ⟨w.heap.size, j, none⟩ (.slice (some ⟨wr.heap.size, 0, none⟩) G G)).alloc (booksBlock G) = W1 at *
      clear cb3 fb3 cb fb hmk2
      go_loopw [26] (fun i wr => ∃ k : Nat, k ≤ G ∧ i = .int .i64 k ∧ NBi w G H j k wr) (fun i _ => G - (intOf i).toNat)
      case atStart => exact ⟨0, Nat.zero_le _, rfl, HI.out⟩
      case round =>
        clear HI
        obtain ⟨k, hk, rfl, A⟩ := hrel
        by_cases hlk : k < G
        · have hlk' : (k : Int) < (G : Int) := by omega
          have cb := (A.bb j hlt).cell
          rw [bkRow, if_pos (by omega)] at cb
          have HA := hide A
          have lg : gbA w.heap.size G j < wr.heap.size := by rw [A.sz]; omega
          have gx := fun (o : Obj) => (A.hj.nl k 0 (Nat.le_refl _) hlk (by omega)).kep (((Kep.refl non wr).drew).alloc o) (fun f => f)
          have g1 : ∀ o, (wr.drew.alloc o).cell? ⟨gbA w.heap.size G j, k * 5, none⟩ = some (.pointer none) := fun o => (gx o).cell
          have g2 : ∀ o, (wr.drew.alloc o).frozen? ⟨gbA w.heap.size G j, k * 5, none⟩ = false := fun o => (gx o).free
          obtain ⟨g3, g4⟩ := A.hj.nl k 0 (Nat.le_refl _) hlk (by omega)
          have g5 : wr.drew.cell? ⟨gbA w.heap.size G j, k * 5, none⟩ = some (.pointer none) := g3
          have g6 : wr.drew.frozen? ⟨gbA w.heap.size G j, k * 5, none⟩ = false := g4
          have lg2 : gbA w.heap.size G j < wr.drew.heap.size := lg
          clear A gx
          go_wp2
          go_cut [8] from 36 to 39 (fun v8 wx => v8 = .pointer (some ⟨gbA w.heap.size G j, k * 5, none⟩) ∧ NBq w G H j k wx)
          case first =>
            go_region_with (go_at_call 77; go_loud (refine (HQ0.out _).mono ?_; rintro e w1 ⟨rfl, hw1⟩; have h1 : w1.cell? ⟨gbA w.heap.size G j, k * 5, none⟩ = some (.pointer none) := (congrArg (fun u => World.cell? u _) hw1).trans (g1 _); have h2 : w1.frozen? ⟨gbA w.heap.size G j, k * 5, none⟩ = false := (congrArg (fun u => World.frozen? u _) hw1).trans (g2 _); have HW1 := hide hw1; clear hw1))
            all_goals go_step
            all_goals go_step
            all_goals go_meet
            all_goals refine ⟨rfl, ?_⟩
            all_goals rw [HW1.out]
            all_goals exact (HA.out.later hk ((Kep.refl non _).drew) rfl).first hlk
          case rest =>
            obtain ⟨rfl, A⟩ := hcut
            clear g1 g2 HA cb lg
            have HA := hide A
            have lg : gbA w.heap.size G j < wc.heap.size := by rw [A.sz]; omega
            have gx := fun (o : Obj) => A.s1.kep (((Kep.refl non wc).drew).alloc o) (fun f => f)
            have g1 : ∀ o, (wc.drew.alloc o).cell? ⟨gbA w.heap.size G j, k * 5 + 1, none⟩ = some (.pointer none) := fun o => (gx o).cell
            have g2 : ∀ o, (wc.drew.alloc o).frozen? ⟨gbA w.heap.size G j, k * 5 + 1, none⟩ = false := fun o => (gx o).free
            obtain ⟨g3, g4⟩ := A.s1
            have g5 : wc.drew.cell? ⟨gbA w.heap.size G j, k * 5 + 1, none⟩ = some (.pointer none) := g3
            have g6 : wc.drew.frozen? ⟨gbA w.heap.size G j, k * 5 + 1, none⟩ = false := g4
            have lg2 : gbA w.heap.size G j < wc.drew.heap.size := lg
            clear A gx
            go_wp2
            go_region_with (go_at_call 77; refine (HQ1.out _).mono ?_; rintro e w1 ⟨rfl, hw1⟩; have h1 : w1.cell? ⟨gbA w.heap.size G j, k * 5 + 1, none⟩ = some (.pointer none) := (congrArg (fun u => World.cell? u _) hw1).trans (g1 _); have h2 : w1.frozen? ⟨gbA w.heap.size G j, k * 5 + 1, none⟩ = false := (congrArg (fun u => World.frozen? u _) hw1).trans (g2 _); have HW1 := hide hw1; clear hw1)
            all_goals go_wp2
            all_goals refine ⟨⟨k + 1, by omega, by go_num, ?_⟩, by simp [intOf]; omega⟩
            all_goals rw [HW1.out]
            all_goals exact (HA.out.later ((Kep.refl non _).drew) rfl).second hlk
        · have e1 : k = G := by omega
          have HA := hide (e1 ▸ A : NBi w G H j G wr)
          clear A
          go_wp2
          exact ⟨⟨j + 1, by omega, by go_num, HA.out.done⟩, by simp [intOf]; omega⟩
    · have e1 : j = H := by omega
      subst e1
      go_wp2
      go_ret
      exact ⟨rfl, A⟩
end

end Go.Proofs.Ytcfoobhihhndjaa
