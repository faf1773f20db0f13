/- The law: made. -/
import Derived.Test.YtcbfmolebomkdaaLg
import Derived.Test.YtcbfmolebomkdaaLb
namespace Go.Proofs.Ytcbfmolebomkdaa
open Go.RowKit

set_option maxRecDepth 100000 in
set_option maxHeartbeats 1000000 in
/-- New is refused, of a nil list: nothing turns -/
theorem made_nil (w : World) (p : Nat) (o : OpV) (hrv : o.rv = .slice none 0 0) :
    Calls Try.prog 9 #[.pointer (some ⟨p, 0, none⟩), .agg o.cells] w fun e w' => e = .returned (.bool true) ∧ Keeps [] w w' := by
  obtain ⟨kd, M, A, B, C, D, E, rv, o0, o1, o2, o3, o4, o5, o6, o7⟩ := o
  simp only [] at hrv
  subst hrv
  have hno : sizeOk A B [] = false := by simp [sizeOk]
  simp only [OpV.cells]
  go_enter Try.func9, Try.ntmps9
  go_wp2_with fail
  refine (lent_nil _).mono ?_
  rintro e w1 ⟨rfl, hw⟩
  subst hw
  go_wp2_with fail
  refine (progNew_no _ A B _ [] (.inl ⟨rfl, rfl⟩) (by simp) hno).mono ?_
  rintro e w1 ⟨rfl, hw⟩
  subst hw
  go_wp2_with fail
  refine (refNew_no _ A B _ [] (.inl ⟨rfl, rfl⟩) (by simp) hno).mono ?_
  rintro e w1 ⟨rfl, hw⟩
  subst hw
  go_wp2_with fail
  refine (returned_nil _ p _).mono ?_
  rintro e w1 ⟨rfl, hw⟩
  subst hw
  go_wp2
  go_ret
  exact ⟨rfl, (Keeps.refl _ _).alloc _⟩

/-- what a step that makes a market, or is refused, leaves of the book -/
def MadeE (w : World) (p B0 : Nat) (ev : Value) (es : List Value) (w' : World) : Prop :=
  ∃ ev' nv, Own w' ⟨p, 5, none⟩ ev' ∧ w'.ownsRow B0 112 1 ev' (es.length + 1) (es ++ [nv]) ∧ (ev'.ownBlock = ev.ownBlock ∨ ∃ b, ev'.ownBlock = some b ∧ w.heap.size ≤ b) ∧
      (∀ j v, j ≠ 5 → Own w ⟨p, j, none⟩ v → Own w' ⟨p, j, none⟩ v) ∧ Keeps (p :: ev.ownBlock.toList) w w' ∧
      ∀ D : Nat → Prop, (∀ b, w.heap.size ≤ b ∧ ev'.ownBlock ≠ some b → D b) → Marked D w' nv [.int .i64 (-7070 - (es.length : Int))] 1

theorem made_post {w w1 w' : World} {p B0 : Nat} {ev : Value} {es : List Value} {l : Value} (k : Keeps [] w w1) (h : IntsPost w1 p B0 ev es l w') (hl : ∀ b, l.ownBlock = some b → w.heap.size ≤ b) (hav : ∀ b, l.ownBlock = some b → b < w1.heap.size) (hown : ∀ b, ev.ownBlock = some b → b < w.heap.size) : MadeE w p B0 ev es w' := by
  obtain ⟨av', nv, h1, h2, h3, h4, h5, h6⟩ := h
  have s := k.size
  refine ⟨av', nv, h1, h2, h3.imp id (fun ⟨b, hb, hs⟩ => ⟨b, hb, by omega⟩), fun j v hj hv => h4 j v hj (hv.keep k (by simp)), ?_, fun D hD => h6 D (fun b hb => hD b ?_)⟩
  · refine (k.mono (by simp)).trans' h5 (fun i hi => ?_)
    rcases List.mem_cons.1 hi with rfl | hi
    · exact .inl List.mem_cons_self
    · rcases List.mem_append.1 hi with hi | hi
      · exact .inr (hl i (by simpa using hi))
      · exact .inl (List.mem_cons_of_mem _ hi)
  · rcases hb with hb | ⟨hb, hb'⟩
    · refine ⟨hl b hb, fun he => ?_⟩
      rcases h3 with h3 | ⟨b', hb', hs⟩
      · have := hown b (by rw [← h3]; exact he)
        have := hl b hb
        omega
      · have e : b' = b := by rw [he] at hb'; simpa using hb'.symm
        have := hav b hb
        omega
    · exact ⟨by omega, hb'⟩

set_option maxRecDepth 100000 in
set_option maxHeartbeats 1000000 in
theorem made_no (w : World) (p B0 : Nat) (ev : Value) (es : List Value) (o : OpV) (rb off rc : Nat) (rs : List Int) (hrv : o.rv = .slice (some ⟨rb, off, none⟩) rs.length rc) (hc : ∀ i x, rs[i]? = some x → w.cell? ⟨rb, off + i, none⟩ = some (.int .i64 x)) (hn : rs.length ≤ 1048576)
    (hc5 : Own w ⟨p, 5, none⟩ ev) (hev : w.ownsRow B0 112 1 ev es.length es) (hb0 : B0 ≤ w.heap.size) (hep : ev.ownBlock ≠ some p) (hne : es.length ≤ 4000000) (hno : sizeOk o.A o.B rs = false) :
    Calls Try.prog 9 #[.pointer (some ⟨p, 0, none⟩), .agg o.cells] w fun e w' => e = .returned (.bool true) ∧ MadeE w p B0 ev es w' := by
  obtain ⟨kd, M, A, B, C, D, E, rv, o0, o1, o2, o3, o4, o5, o6, o7⟩ := o
  simp only [] at hrv hno
  subst hrv
  have HC := hide hc
  have H5 := hide hc5
  have HE := hide hev
  have hpw : p < w.heap.size := hc5.lt
  have hew : ∀ b, ev.ownBlock = some b → b < w.heap.size := fun b hb => (hev.lt b hb).2
  clear hc hc5 hev
  simp only [OpV.cells]
  go_enter Try.func9, Try.ntmps9
  go_wp2_with fail
  have kb : Keeps [] w (w.alloc (.cells #[.int .i64 kd, .int .i64 M, .int .i64 A, .int .i64 B, .int .i64 C, .int .i64 D, .int .i64 E, .slice (some ⟨rb, off, none⟩) rs.length rc, .int .i64 o0, .int .i64 o1, .int .i64 o2, .int .i64 o3, .int .i64 o4, .int .i64 o5, .int .i64 o6, .int .i64 o7] 42)) := (Keeps.refl _ _).alloc _
  have hb := heap_alloc_new w (.cells #[.int .i64 kd, .int .i64 M, .int .i64 A, .int .i64 B, .int .i64 C, .int .i64 D, .int .i64 E, .slice (some ⟨rb, off, none⟩) rs.length rc, .int .i64 o0, .int .i64 o1, .int .i64 o2, .int .i64 o3, .int .i64 o4, .int .i64 o5, .int .i64 o6, .int .i64 o7] 42)
  refine (lent_some _ rb off rc rs (fun i x hx => kb.cell (HC.out i x hx) (by simp)) (by omega)).mono ?_
  rintro e w1 ⟨gb, cap, rfl, k1, r1⟩
  have bl : w1.heap[w.heap.size]? = _ := (k1.block w.heap.size (by simp) (by simp)).trans hb
  have p2 : w1.cell? ⟨w.heap.size, 2, none⟩ = some (.int .i64 A) := cell_of_row _ _ 2 _ _ _ bl
  have p3 : w1.cell? ⟨w.heap.size, 3, none⟩ = some (.int .i64 B) := cell_of_row _ _ 3 _ _ _ bl
  have p7 : w1.cell? ⟨w.heap.size, 7, none⟩ = some (.slice (some ⟨rb, off, none⟩) rs.length rc) := cell_of_row _ _ 7 _ _ _ bl
  clear hb bl
  have kk : Keeps [] w w1 := kb.trans k1
  have s1 := k1.size
  have hgb := r1.lt gb rfl
  simp only [World.size_alloc] at s1 hgb
  have HR1 := hide r1
  have ig : IntsAt w1 (.slice (some ⟨gb, 0, none⟩) rs.length cap) rs := .inr ⟨gb, 0, cap, rfl, fun i x hx => by
    have hi : i < rs.length := (List.getElem?_eq_some_iff.1 hx).1
    rw [Nat.zero_add, r1.cellAt i (by omega), List.getElem?_map, List.getElem?_append_left hi, hx]
    rfl⟩
  have il : IntsAt w1 (.slice (some ⟨rb, off, none⟩) rs.length rc) rs := .inr ⟨rb, off, rc, rfl, fun i x hx => kk.cell (HC.out i x hx) (by simp)⟩
  have HIG := hide ig
  have HIL := hide il
  clear r1 k1 ig il kb
  go_wp2_with fail
  refine (progNew_no _ A B _ rs HIG.out hn hno).mono ?_
  rintro e w2 ⟨rfl, hw⟩
  subst hw
  go_wp2_with fail
  refine (refNew_no _ A B _ rs HIL.out hn hno).mono ?_
  rintro e w2 ⟨rfl, hw⟩
  subst hw
  go_wp2_with fail
  refine (returned_some w2 p B0 _ ev es rb off rc gb cap rs (fun i x hx => kk.cell (HC.out i x hx) (by simp)) (by omega) HR1.out (H5.out.keep kk (by simp)) (ownsRow_keep HE.out kk (by simp)) (by omega) (by omega) (fun h => by have := hew gb h; omega) hep hne).mono ?_
  rintro e w3 ⟨rfl, hp⟩
  go_wp2
  go_ret
  refine ⟨rfl, made_post kk hp ?_ ?_ hew⟩
  · intro b hb
    have : gb = b := by simpa [Value.ownBlock] using hb
    omega
  · intro b hb
    have : gb = b := by simpa [Value.ownBlock] using hb
    omega

end Go.Proofs.Ytcbfmolebomkdaa
