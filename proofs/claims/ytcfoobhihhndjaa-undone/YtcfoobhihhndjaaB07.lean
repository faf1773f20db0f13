/- The program's market: New, where it gives a market. -/
import Derived.Test.YtcfoobhihhndjaaB06
namespace Go.Proofs.Ytcfoobhihhndjaa

section
open Go.RowKit Go.Sort

/-- a market in which nobody has anything -/
def newM (T G : Nat) (rs : List Int) : Mt := ⟨T, G, rs.length, fun h => rs.getD h 0, fun _ => 0, fun _ _ _ => 0, [], fun _ _ _ => [], fun _ _ => 0, fun _ _ => 0, fun _ _ => 0, 0, 0, 0⟩

def zeros17 : Array Value := #[.int .i64 0, .int .i64 0, .int .i64 0, .int .i64 0, .int .i64 0, .int .i64 0, .int .i64 0, .int .i64 0, .int .i64 0, .int .i64 0, .int .i64 0, .int .i64 0, .int .i64 0, .int .i64 0, .int .i64 0, .int .i64 0, .int .i64 0]
def acctBlock (T : Nat) : Obj := .cells (madeCells zeros17 (T * 17)) 85

theorem acct_at {w : World} {B T : Nat} (h : w.heap[B]? = some (acctBlock T)) (k : Nat) (hk : k < T * 17) : Own w ⟨B, k, none⟩ (.int .i64 0) := by
  refine ⟨?_, frozen_of_row w B k _ _ h⟩
  rw [cell_of_row w B k _ _ _ h]
  have hz : ∀ i, i < 17 → zeros17[i]? = some (.int .i64 0) := by
    intro i hi
    rcases i with _ | _ | _ | _ | _ | _ | _ | _ | _ | _ | _ | _ | _ | _ | _ | _ | _ | i
    all_goals first | rfl | omega
  have hm := hz (k % 17) (Nat.mod_lt _ (by decide))
  simp only [madeCells]
  simp [hk]
  show zeros17[k % 17]! = _
  rw [getElem!_def, hm]

theorem gbA_inj {B G h h' i i' : Nat} (e : gbA B G h + i = gbA B G h' + i') (hi : i ≤ 2 * G) (hi' : i' ≤ 2 * G) : h = h' ∧ i = i' := by
  rcases Nat.lt_trichotomy h h' with k | k | k
  · have := gbA_mono B G k; omega
  · subst k; omega
  · have := gbA_mono B G k; omega

/-- the parts of a market that is being made -/
structure NewSt (w : World) (T G : Nat) (rs : List Int) (ab gg B : Nat) (W : World) : Prop where
  kp : Kep non w W
  ha : W.heap[ab]? = some (acctBlock T)
  la : w.heap.size ≤ ab
  hr : ∀ i x, rs[i]? = some x → W.cell? ⟨gg, i, none⟩ = some (.int .i64 x)
  lg : w.heap.size ≤ gg ∧ gg < W.heap.size
  bb : ∀ h, h < rs.length → Own W ⟨B, h, none⟩ (.slice (some ⟨gbA B G h, 0, none⟩) G G)
  hs : ∀ h, h < rs.length → NBh B G h G W
  lb : w.heap.size ≤ B ∧ gbA B G rs.length ≤ W.heap.size
  d1 : gg ≠ ab
  d2 : gg < B ∨ gbA B G rs.length ≤ gg
  d3 : ab < B ∨ gbA B G rs.length ≤ ab

theorem pnew_end {w W : World} {T G : Nat} {rs : List Int} {ab gg B cap : Nat} (S : NewSt w T G rs ab gg B W) :
    ∃ L : PL, L.x = W.heap.size ∧ PRep (W.alloc (.cells #[.int .i64 G, .slice (some ⟨gg, 0, none⟩) rs.length cap, .slice (some ⟨ab, 0, none⟩) T T, .slice none 0 0, .slice (some ⟨B, 0, none⟩) rs.length rs.length, .int .i64 0, .int .i64 0, .int .i64 0] 79)) L (newM T G rs) ∧
      Kep non w (W.alloc (.cells #[.int .i64 G, .slice (some ⟨gg, 0, none⟩) rs.length cap, .slice (some ⟨ab, 0, none⟩) T T, .slice none 0 0, .slice (some ⟨B, 0, none⟩) rs.length rs.length, .int .i64 0, .int .i64 0, .int .i64 0] 79)) ∧ (∀ b, L.S (newM T G rs) b → w.heap.size ≤ b) ∧ w.heap.size ≤ L.rb ∧ w.heap.size ≤ L.bb := by
  have h := heap_alloc_new W (.cells #[.int .i64 G, .slice (some ⟨gg, 0, none⟩) rs.length cap, .slice (some ⟨ab, 0, none⟩) T T, .slice none 0 0, .slice (some ⟨B, 0, none⟩) rs.length rs.length, .int .i64 0, .int .i64 0, .int .i64 0] 79)
  have c := fun j => cell_of_row _ _ j _ _ _ h
  have f := fun j => frozen_of_row _ _ j _ _ h
  have ko : Kep non W (W.alloc (.cells #[.int .i64 G, .slice (some ⟨gg, 0, none⟩) rs.length cap, .slice (some ⟨ab, 0, none⟩) T T, .slice none 0 0, .slice (some ⟨B, 0, none⟩) rs.length rs.length, .int .i64 0, .int .i64 0, .int .i64 0] 79)) := (Kep.refl _ _).alloc _
  have n : ∀ b, ¬ non b := fun _ q => q
  have hz := S.kp.size
  have lab : ab < W.heap.size := (Array.getElem?_eq_some_iff.1 S.ha).1
  have lgg := S.lg
  have lb := S.lb
  have mono : ∀ h, h < rs.length → gbA B G h + 1 + 2 * G ≤ gbA B G rs.length := fun h hh => gbA_mono B G hh
  have gB := fun h => gbA_le B G h
  let L : PL := ⟨W.heap.size, gg, cap, ab, .slice none 0 0, B, gbA B G, qbA B G, fun _ _ _ => .slice none 0 0, fun _ _ _ => []⟩
  have inv : ∀ j b, L.F (newM T G rs) j = some b → (j = .x ∧ b = W.heap.size) ∨ (j = .ab ∧ b = ab) ∨ (∃ h, h < rs.length ∧ j = .gb h ∧ b = gbA B G h + 0) ∨ (∃ h g s, h < rs.length ∧ g < G ∧ s < 2 ∧ j = .qb h g s ∧ b = gbA B G h + (1 + 2 * g + s)) := by
    intro j b hj
    rcases j with _ | _ | _ | h | ⟨h, g, s⟩ | ⟨h, g, s⟩ | ⟨h, g, s, i⟩
    · exact .inl ⟨rfl, by injection hj with hj; exact hj.symm⟩
    · exact .inr (.inl ⟨rfl, by injection hj with hj; exact hj.symm⟩)
    · simp [PL.F, L, Value.ownBlock] at hj
    · simp only [PL.F] at hj
      split at hj
      · rename_i hh
        exact .inr (.inr (.inl ⟨h, hh, rfl, by injection hj with hj; exact hj.symm⟩))
      · cases hj
    · simp only [PL.F] at hj
      split at hj
      · rename_i hh
        exact .inr (.inr (.inr ⟨h, g, s, hh.1, hh.2.1, hh.2.2, rfl, by injection hj with hj; rw [← hj]; show qbA B G h g s = _; unfold qbA; omega⟩))
      · cases hj
    · simp only [PL.F] at hj
      split at hj
      · simp [L, Value.ownBlock] at hj
      · cases hj
    · simp only [PL.F] at hj
      split at hj
      · simp [L] at hj
      · cases hj
  have hge : ∀ b, L.S (newM T G rs) b → w.heap.size ≤ b := by
    rintro b ⟨j, hj⟩
    rcases inv j b hj with ⟨_, e⟩ | ⟨_, e⟩ | ⟨h, _, _, e⟩ | ⟨h, g, s, _, _, _, _, e⟩
    · omega
    · have := S.la; omega
    · have := gB h; omega
    · have := gB h; omega
  have rg : L.rb = gg := rfl
  have bg : L.bb = B := rfl
  refine ⟨L, rfl, ⟨⟨c 0, f 0⟩, ⟨c 1, f 1⟩, ⟨c 2, f 2⟩, ⟨c 3, f 3⟩, ⟨c 4, f 4⟩, ⟨c 5, f 5⟩, ⟨c 6, f 6⟩, ⟨c 7, f 7⟩, fun i hi => ?_, fun t ht => ?_, fun t i g ht hi hg => ?_, World.ownsRow_nil _ _ _ _, fun i hi => ?_, fun i g s q => ?_, fun i g hi hg => ?_, fun i g hi hg => ?_, fun i g hi hg => ?_, fun i g s q => ?_, fun i g s q => ?_, fun i g s q => World.ownsRow_nil _ _ _ _, fun i g s q => rfl, fun i g s k b o q e => by simp [L] at e, fun i g s k b q e => by simp [L] at e, ?_, ?_, ?_⟩, S.kp.trans ko, hge, lgg.1, lb.1⟩
  · have hi' : i < rs.length := hi
    have e : rs[i]? = some ((newM T G rs).rt i) := by
      show rs[i]? = some (rs.getD i 0)
      simp [hi']
    exact ko.cell (S.hr i _ e) (n _)
  · exact (acct_at S.ha (t * 17) (by have : t < T := ht; omega)).kep ko (n _)
  · exact (acct_at S.ha (t * 17 + 1 + i * 4 + g) (by have : t < T := ht; omega)).kep ko (n _)
  · exact ((S.bb i hi).kep ko (n _)).cell
  · exact ((S.hs i q.1).sd g s q.2.1 q.2.2).kep ko (n _)
  · exact ((S.hs i hi).nm g 0 hg (by omega)).kep ko (n _)
  · exact ((S.hs i hi).nm g 1 hg (by omega)).kep ko (n _)
  · exact ((S.hs i hi).nm g 2 hg (by omega)).kep ko (n _)
  · exact ko.cell ((S.hs i q.1).q0 g s q.2.1 q.2.2) (n _)
  · exact ((S.hs i q.1).q1 g s q.2.1 q.2.2).kep ko (n _)
  · have d3 := S.d3
    intro i j b hi hj
    rcases inv i b hi with ⟨rfl, e⟩ | ⟨rfl, e⟩ | ⟨h, hh, rfl, e⟩ | ⟨h, g, s, hh, hg, hs, rfl, e⟩
    · rcases inv j b hj with ⟨rfl, e'⟩ | ⟨rfl, e'⟩ | ⟨h', hh', rfl, e'⟩ | ⟨h', g', s', hh', hg', hs', rfl, e'⟩
      · rfl
      · omega
      · have := mono h' hh'; omega
      · have := mono h' hh'; omega
    · rcases inv j b hj with ⟨rfl, e'⟩ | ⟨rfl, e'⟩ | ⟨h', hh', rfl, e'⟩ | ⟨h', g', s', hh', hg', hs', rfl, e'⟩
      · omega
      · rfl
      · have := mono h' hh'; have := gB h'; omega
      · have := mono h' hh'; have := gB h'; omega
    · have m1 := mono h hh
      have g1 := gB h
      rcases inv j b hj with ⟨rfl, e'⟩ | ⟨rfl, e'⟩ | ⟨h', hh', rfl, e'⟩ | ⟨h', g', s', hh', hg', hs', rfl, e'⟩
      · omega
      · omega
      · obtain ⟨rfl, _⟩ := gbA_inj (e.symm.trans e') (by omega) (by omega)
        rfl
      · have := (gbA_inj (e.symm.trans e') (by omega) (by omega)).2
        omega
    · have m1 := mono h hh
      have g1 := gB h
      rcases inv j b hj with ⟨rfl, e'⟩ | ⟨rfl, e'⟩ | ⟨h', hh', rfl, e'⟩ | ⟨h', g', s', hh', hg', hs', rfl, e'⟩
      · omega
      · omega
      · have := (gbA_inj (e.symm.trans e') (by omega) (by omega)).2
        omega
      · obtain ⟨rfl, k⟩ := gbA_inj (e.symm.trans e') (by omega) (by omega)
        have e1 : g = g' := by omega
        have e2 : s = s' := by omega
        subst e1 e2
        rfl
  · rintro ⟨j, hj⟩
    have d1 := S.d1
    have d2 := S.d2
    rcases inv j _ hj with ⟨_, e⟩ | ⟨_, e⟩ | ⟨h, hh, _, e⟩ | ⟨h, g, s, hh, hg, hs, _, e⟩
    · omega
    · omega
    · have := mono h hh; have := gB h; omega
    · have := mono h hh; have := gB h; omega
  · rintro ⟨j, hj⟩
    have d3 := S.d3
    have g0 := gB rs.length
    rcases inv j _ hj with ⟨_, e⟩ | ⟨_, e⟩ | ⟨h, hh, _, e⟩ | ⟨h, g, s, hh, hg, hs, _, e⟩
    · omega
    · omega
    · have := gB h; omega
    · have := gB h; omega

theorem nb_row {w : World} {G H : Nat} {W : World} (nb : NBo w G H H W) {h : Nat} (hh : h < H) : Own W ⟨w.heap.size, h, none⟩ (.slice (some ⟨gbA w.heap.size G h, 0, none⟩) G G) := by
  have := nb.bb h hh
  rwa [bkRow, if_pos hh] at this

set_option maxRecDepth 100000 in
set_option maxHeartbeats 4000000 in
theorem new_yes (w : World) (T G : Nat) (v : Value) (rs : List Int) (hr : IntsAt w v rs) (hn : sizeOk T G rs = true) :
    Calls Try.prog 27 #[.int .i64 T, .int .i64 G, v] w fun e w' => ∃ L : PL, e = .returned (.tuple #[.pointer (some ⟨L.x, 0, none⟩), .int .i64 0]) ∧ PRep w' L (newM T G rs) ∧ Kep non w w' ∧ (∀ b, L.S (newM T G rs) b → w.heap.size ≤ b) ∧ w.heap.size ≤ L.rb ∧ w.heap.size ≤ L.bb := by
  unfold sizeOk at hn
  simp only [Bool.and_eq_true] at hn
  obtain ⟨⟨h1, h2⟩, h3⟩ := hn
  have b1 := of_decide_eq_true h1
  have b2 := of_decide_eq_true h2
  have h3' := h3
  simp only [fitB, Bool.and_eq_true, decide_eq_true_eq] at h3'
  obtain ⟨⟨n1, n4⟩, _⟩ := h3'
  have HF := hide (ratesFit_any w v rs hr (by omega))
  rw [h3] at HF
  have i1 := hide h1
  have i2 := hide h2
  clear h1 h2 h3
  rcases hr with ⟨_, h⟩ | ⟨rb, off, rc, rfl, hc⟩
  · subst h; simp at n1
  have HC := hide (fun W (k : Kep non w W) => clone_any W rb off rc rs (fun i x hx => k.cell (hc i x hx) (fun f => f)) n1 n4)
  have HN := hide (fun W => newBooks_any W G rs.length (by omega) n4)
  clear hc
  obtain ⟨i0, hi0, hz0, hz1, hz2⟩ := info_parts infoAccount
  have hmk : ∀ u : World, (Instr.makeSlice 75 (.int .i64 (T : Int)) (.int .i64 (T : Int))).run Try.prog u = .ok (.slice (some ⟨u.heap.size, 0, none⟩) T T) (u.alloc (acctBlock T)) := fun u => by
    have h := run_make (P := Try.prog) u 75 85 i0 _ Try.underlying75 hi0 hz0 .i64 .i64 (T : Int) (T : Int) (by omega) (Int.le_refl _) (by rw [hz2]; omega) (by omega)
    rw [Int.toNat_natCast, hz1] at h
    exact h
  go_enter Try.func27, Try.ntmps27
  go_wp2_with (first | (go_at_call 34; refine (within_b _ _ _ _).mono ?_; (first | rw [i1.out] | rw [i2.out]); rintro e w' ⟨rfl, rfl⟩) | (go_at_call 57; refine HF.out.mono ?_; rintro e w' ⟨rfl, rfl⟩))
  clear b1 b2 i1 i2 HF hi0 hz0 hz1 hz2 n1 n4
  go_region_with (first | (go_at_call 58; refine (HC.out _ ?_).mono ?_; ((repeat (first | apply Kep.drew | apply Kep.alloc)); first | exact Kep.refl _ _ | assumption); rintro e wa ⟨gg, cap, rfl, ga, gb, ka, ra⟩; have KA : Kep non w' wa := Kep.trans (by ((repeat (first | apply Kep.drew | apply Kep.alloc)); first | exact Kep.refl _ _ | assumption)) ka) | (go_at_call 59; refine (HN.out _).mono ?_; rintro e wb ⟨rfl, nb⟩; have KB : Kep non w' wb := Kep.trans (by ((repeat (first | apply Kep.drew | apply Kep.alloc)); first | exact Kep.refl _ _ | assumption)) nb.kp))
  all_goals clear HC HN hmk
  all_goals go_wp2
  all_goals go_ret2
  · have S : NewSt w' T G rs wa.heap.size gg (wa.alloc (acctBlock T)).heap.size wb := by
      have z1 := nb.sz
      have z2 := ka.size
      have z3 : (wa.alloc (acctBlock T)).heap.size = wa.heap.size + 1 := by simp
      have z4 : w'.drew.heap.size = w'.heap.size := rfl
      have z5 := gbA_le (wa.alloc (acctBlock T)).heap.size G rs.length
      refine ⟨KB, (nb.kp.block _ (by omega) (fun f => f)).trans (heap_alloc_new wa _), by omega, fun i x hx => nb.kp.cell (((Kep.refl non wa).alloc _).cell (ra i x hx) (fun f => f)) (fun f => f), ⟨by omega, by omega⟩, fun h hh => nb_row nb hh, nb.hs, ⟨by omega, by omega⟩, by omega, by omega, by omega⟩
    obtain ⟨L, e1, e2, e3, e4⟩ := pnew_end (cap := cap) S
    exact ⟨L, by rw [e1]; rfl, by simpa using e2, by simpa using e3, e4⟩
  · have S : NewSt w' T G rs wb.heap.size gg wa.heap.size (wb.alloc (acctBlock T)) := by
      have z1 := nb.sz
      have z2 := ka.size
      have z3 : (wb.alloc (acctBlock T)).heap.size = wb.heap.size + 1 := by simp
      have z4 : w'.drew.heap.size = w'.heap.size := rfl
      have z5 := gbA_le wa.heap.size G rs.length
      have k1 : Kep non wb (wb.alloc (acctBlock T)) := (Kep.refl _ _).alloc _
      refine ⟨KB.trans k1, heap_alloc_new wb _, by omega, fun i x hx => k1.cell (nb.kp.cell (ra i x hx) (fun f => f)) (fun f => f), ⟨by omega, by omega⟩, fun h hh => (nb_row nb hh).kep k1 (fun f => f), fun h hh => (nb.hs h hh).kep (Nat.le_refl _) k1 (fun _ _ _ f => f), ⟨by omega, by omega⟩, by omega, by omega, by omega⟩
    obtain ⟨L, e1, e2, e3, e4⟩ := pnew_end (cap := cap) S
    exact ⟨L, by rw [e1, World.size_alloc]; rfl, by simpa using e2, by simpa using e3, e4⟩
  · have S : NewSt w' T G rs w'.heap.size gg wa.heap.size wb := by
      have z1 := nb.sz
      have z2 := ka.size
      have z3 : (w'.alloc (acctBlock T)).drew.heap.size = w'.heap.size + 1 := by simp
      have z5 := gbA_le wa.heap.size G rs.length
      refine ⟨KB, (nb.kp.block _ (by omega) (fun f => f)).trans ((ka.block _ (by omega) (fun f => f)).trans (heap_alloc_new w' _)), by omega, fun i x hx => nb.kp.cell (ra i x hx) (fun f => f), ⟨by omega, by omega⟩, fun h hh => nb_row nb hh, nb.hs, ⟨by omega, by omega⟩, by omega, by omega, by omega⟩
    obtain ⟨L, e1, e2, e3, e4⟩ := pnew_end (cap := cap) S
    exact ⟨L, by rw [e1]; rfl, by simpa using e2, by simpa using e3, e4⟩
end

end Go.Proofs.Ytcfoobhihhndjaa
