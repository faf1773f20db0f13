/- The law: New with a list that is empty and lies somewhere. -/
import Derived.Test.YtcbfmolebomkdaaLn
namespace Go.Proofs.Ytcbfmolebomkdaa
open Go.RowKit

set_option maxRecDepth 100000 in
set_option maxHeartbeats 1000000 in
theorem lent_empty (w : World) (a : Addr) :
    Calls Try.prog 24 #[.slice (some a) 0 0] w fun e w' => ∃ gb cap, e = .returned (.slice (some ⟨gb, 0, none⟩) 0 cap) ∧ Keeps [] w w' ∧
      w'.ownsRow w.heap.size 3 1 (.slice (some ⟨gb, 0, none⟩) 8 cap) 8 ((nines 8).map (.int .i64)) := by
  have hnil := fun (w : World) (a : Option Addr) (n c : Nat) => Lib.run_eql_slice_nil (P := Try.prog) w 38 3 a n c 0 0 Try.underlying38
  obtain ⟨i3, hi3, hz30, hz31, hz32⟩ := info_parts info3
  go_enter Try.func24, Try.ntmps24
  go_wp2_with (at_builtin; (refine wpList_append_own _ rfl _ _ _ rfl w.heap.size 3 i3 _ 1 8 Try.underlying38 hi3 hz30 hz31 hz32 rfl (by omega) _ 0 [] rfl (World.ownsRow_nil _ _ _ _) a 0 0 [] rfl (by simp) (fun j u hu => by simp at hu) (by simp) (by simp only [maxLen]; omega) (by omega) (Nat.le_refl _) ?_))
  intro v1 w1 hown1 hgrow1 hv1
  clear hv1
  have K1 : Keeps [] w w1 := (Keeps.refl _ _).grown hgrow1 (by simp [Value.ownBlock])
  clear hgrow1
  go_wp2
  go_loopw [3, 4] (fun g i wr => ∃ k : Nat, k ≤ 8 ∧ i = .int .i64 k ∧ Keeps [] w wr ∧ wr.ownsRow w.heap.size 3 1 g k ((nines k).map (.int .i64))) (fun _ i _ => 8 - (intOf i).toNat)
  case atStart => exact ⟨0, by omega, rfl, K1, by simpa [nines] using hown1⟩
  case round =>
    clear hown1 K1
    obtain ⟨k, hk, rfl, hkp, hown⟩ := hrel
    have sz := hkp.size
    by_cases hlt : k < 8
    · go_wp2_with (at_builtin; (refine wpList_append_own _ rfl _ _ _ rfl w.heap.size 3 i3 _ 1 8 Try.underlying38 hi3 hz30 hz31 hz32 rfl (by omega) _ k _ rfl (by exact hown.alloc _) ⟨wr.heap.size, 0, none⟩ 1 1 [_] rfl rfl (by exact cell_one_new _ _ _) (by simp [Value.oneCell']) (by simp only [maxLen]; omega) (by omega) (by simp; omega) ?_))
      intro v2 w2 hown2 hgrow2 _
      have K2 : Keeps [] w w2 := (hkp.alloc _).grown hgrow2 (fun b hb => .inr (hown.lt b hb).1)
      go_wp2
      refine ⟨⟨k + 1, by omega, by go_num, K2, ?_⟩, by simp [intOf]; omega⟩
      simpa [nines_succ, Nat.add_assoc] using hown2
    · have e8 : k = 8 := by omega
      subst e8
      obtain ⟨gb, cap, rfl, _, _⟩ := hown.form (by omega)
      have hcap : 8 ≤ cap := by
        rcases hown.2 with ⟨q, _⟩ | ⟨_, _, _, q, _, _, q2, _⟩
        · simp at q
        · simp only [Value.slice.injEq, true_and] at q
          rw [q.2]; exact q2
      go_wp2
      go_ret
      exact ⟨gb, cap, by simp, hkp, hown⟩

set_option maxRecDepth 100000 in
set_option maxHeartbeats 1000000 in
theorem returned_empty (w : World) (p B0 base : Nat) (ev : Value) (es : List Value) (a : Addr) (gb cap : Nat)
    (hg : w.ownsRow base 3 1 (.slice (some ⟨gb, 0, none⟩) 8 cap) 8 ((nines 8).map (.int .i64)))
    (hc5 : Own w ⟨p, 5, none⟩ ev) (hev : w.ownsRow B0 112 1 ev es.length es) (hb0 : B0 ≤ w.heap.size) (hlp : gb ≠ p) (hle : ev.ownBlock ≠ some gb) (hep : ev.ownBlock ≠ some p) (hne : es.length ≤ 4000000) :
    Calls Try.prog 27 #[.pointer (some ⟨p, 0, none⟩), .slice (some ⟨gb, 0, none⟩) 0 cap, .slice (some a) 0 0] w fun e w' => e = .returned (.bool true) ∧ IntsPost w p B0 ev es (.slice (some ⟨gb, 0, none⟩) 0 cap) w' := by
  have hnil := fun (w : World) (a : Option Addr) (n c : Nat) => Lib.run_eql_slice_nil (P := Try.prog) w 38 3 a n c 0 0 Try.underlying38
  have hcap : 8 ≤ cap := by
    rcases hg.2 with ⟨q, _⟩ | ⟨_, _, _, q, _, _, q2, _⟩
    · simp at q
    · simp only [Value.slice.injEq, true_and] at q
      rw [q.2]; exact q2
  have hl : LRow w (.slice (some ⟨gb, 0, none⟩) 0 cap) 1 0 cap := .inr ⟨gb, rfl, by omega, there_row (e := 3) (xs := (nines 8).map (.int .i64)) (n := 8) (by
    refine ⟨hg.1, ?_⟩
    rcases hg.2 with q | ⟨a, b, d, q, _, r⟩
    · exact .inl q
    · exact .inr ⟨a, b, d, q, Nat.zero_le _, r⟩)⟩
  have HI : Hid (∀ nd, Calls Try.prog 67 #[.pointer (some ⟨p, 1, none⟩), .slice (some ⟨gb, 0, none⟩) 0 cap] (w.drewN nd) fun e w' => e = .returned (.tuple #[]) ∧ IntsPost w p B0 ev es (.slice (some ⟨gb, 0, none⟩) 0 cap) w') := hide fun nd => by
    have kd : Keeps [] w (w.drewN nd) := (Keeps.refl _ _).drewN nd
    have hle' : ∀ b, (Value.slice (some ⟨gb, 0, none⟩) 0 cap).ownBlock = some b → ev.ownBlock ≠ some b := fun b hb => by
      have e : gb = b := by simpa [Value.ownBlock] using hb
      subst e
      exact hle
    refine (ints_any (w.drewN nd) p B0 ev es _ 0 cap (hc5.keep kd (by simp)) (ownsRow_keep hev kd (by simp)) hb0 (hl.ext (row := none) (.of_keeps kd)) (by simp [Value.ownBlock, hlp]) hle' hep hne (by omega)).mono ?_
    rintro e w' ⟨rfl, ev', nv, h1, h2, h3, h4, h5, h6⟩
    exact ⟨rfl, ev', nv, h1, h2, h3, fun j v hj hv => h4 j v hj (hv.keep kd (by simp)), (kd.mono (by simp)).trans h5, h6⟩
  have gc : Hid (∀ i x, (nines 8)[i]? = some x → w.cell? ⟨gb, i, none⟩ = some (.int .i64 x)) := hide fun i x hx => by
    have hi : i < 8 := by have := (List.getElem?_eq_some_iff.1 hx).1; simpa [nines] using this
    rw [hg.cellAt i (by omega)]
    simp only [List.getElem?_map, hx]
    rfl
  clear hc5 hev hg hl
  go_enter Try.func27, Try.ntmps27
  go_wp2
  go_loopw [8, 9] (fun o i wr => ∃ k : Nat, k ≤ 0 ∧ i = .int .i64 k ∧ o = .bool true ∧ ∃ n, wr = w.drewN n) (fun _ i _ => 0 - (intOf i).toNat)
  case atStart => exact ⟨0, by omega, rfl, rfl, 0, rfl⟩
  case round =>
    obtain ⟨k, hk, rfl, rfl, nd, rfl⟩ := hrel
    by_cases hlt : k < 0
    · omega
    · go_wp2
      go_loopw [8, 10] (fun o i wr => ∃ k : Nat, k ≤ 8 ∧ i = .int .i64 k ∧ o = .bool true ∧ ∃ n, wr = w.drewN n) (fun _ i _ => 8 - (intOf i).toNat)
      case atStart => exact ⟨0, by omega, rfl, rfl, nd, rfl⟩
      case round =>
        obtain ⟨j, hj, rfl, rfl, nd', rfl⟩ := hrel
        by_cases hlt8 : j < 8
        · have q2 := gc.out j (900 + (j : Int)) (by simp [nines, hlt8])
          go_wp2
          exact ⟨⟨j + 1, by omega, by go_num, rfl, _, rfl⟩, by simp [intOf]; omega⟩
        · go_wp2_with fail
          refine (HI.out nd').mono ?_
          rintro e w' ⟨rfl, hp⟩
          go_wp2
          go_ret
          exact ⟨rfl, hp⟩

set_option maxRecDepth 100000 in
set_option maxHeartbeats 1000000 in
theorem refNew_empty (w : World) (t g : Int) (a : Option Addr) (c : Nat) :
    Calls Try.prog 26 #[.int .i64 t, .int .i64 g, .slice a 0 c] w fun e w' => e = .returned (.tuple #[.pointer none, .int .i64 1]) ∧ w' = w := by
  go_enter Try.func26, Try.ntmps26
  go_wp2
  all_goals
    go_loop [8, 9] (fun ok i => i = .int .i64 0 ∧ ok = .bool false) (fun _ _ => 0)
    case atStart => exact ⟨rfl, by first | rfl | simp⟩
    case round =>
      obtain ⟨rfl, rfl⟩ := hrel
      go_wp2
      go_ret2
      exact ⟨rfl, rfl⟩

set_option maxRecDepth 100000 in
set_option maxHeartbeats 1000000 in
theorem made_empty (w : World) (p B0 : Nat) (ev : Value) (es : List Value) (o : OpV) (a : Addr) (hrv : o.rv = .slice (some a) 0 0)
    (hc5 : Own w ⟨p, 5, none⟩ ev) (hev : w.ownsRow B0 112 1 ev es.length es) (hb0 : B0 ≤ w.heap.size) (hep : ev.ownBlock ≠ some p) (hne : es.length ≤ 4000000) :
    Calls Try.prog 9 #[.pointer (some ⟨p, 0, none⟩), .agg o.cells] w fun e w' => e = .returned (.bool true) ∧ MadeE w p B0 ev es w' := by
  obtain ⟨kd, M, A, B, C, D, E, rv, o0, o1, o2, o3, o4, o5, o6, o7⟩ := o
  simp only [] at hrv
  subst hrv
  have HNO : Hid (sizeOk A B [] = false) := hide (by simp [sizeOk])
  have H5 := hide hc5
  have HE := hide hev
  have hpw : p < w.heap.size := hc5.lt
  have hew : ∀ b, ev.ownBlock = some b → b < w.heap.size := fun b hb => (hev.lt b hb).2
  clear hc5 hev
  simp only [OpV.cells]
  go_enter Try.func9, Try.ntmps9
  go_wp2_with fail
  have kb : Keeps [] w (w.alloc (.cells #[.int .i64 kd, .int .i64 M, .int .i64 A, .int .i64 B, .int .i64 C, .int .i64 D, .int .i64 E, .slice (some a) 0 0, .int .i64 o0, .int .i64 o1, .int .i64 o2, .int .i64 o3, .int .i64 o4, .int .i64 o5, .int .i64 o6, .int .i64 o7] 42)) := (Keeps.refl _ _).alloc _
  have hb := heap_alloc_new w (.cells #[.int .i64 kd, .int .i64 M, .int .i64 A, .int .i64 B, .int .i64 C, .int .i64 D, .int .i64 E, .slice (some a) 0 0, .int .i64 o0, .int .i64 o1, .int .i64 o2, .int .i64 o3, .int .i64 o4, .int .i64 o5, .int .i64 o6, .int .i64 o7] 42)
  refine (lent_empty _ a).mono ?_
  rintro e w1 ⟨gb, cap, rfl, k1, r1⟩
  have bl : w1.heap[w.heap.size]? = _ := (k1.block w.heap.size (by simp) (by simp)).trans hb
  have p2 : w1.cell? ⟨w.heap.size, 2, none⟩ = some (.int .i64 A) := cell_of_row _ _ 2 _ _ _ bl
  have p3 : w1.cell? ⟨w.heap.size, 3, none⟩ = some (.int .i64 B) := cell_of_row _ _ 3 _ _ _ bl
  have p7 : w1.cell? ⟨w.heap.size, 7, none⟩ = some (.slice (some a) 0 0) := cell_of_row _ _ 7 _ _ _ bl
  clear hb bl
  have kk : Keeps [] w w1 := kb.trans k1
  have s1 := k1.size
  have hgb := r1.lt gb rfl
  simp only [World.size_alloc] at s1 hgb
  have HR1 := hide r1
  have ig : IntsAt w1 (.slice (some ⟨gb, 0, none⟩) 0 cap) [] := .inr ⟨gb, 0, cap, rfl, fun i x hx => by simp at hx⟩
  have HIG := hide ig
  clear r1 k1 ig kb
  go_wp2_with fail
  refine (progNew_no _ A B _ [] HIG.out (by simp) HNO.out).mono ?_
  rintro e w2 ⟨rfl, hw⟩
  subst hw
  go_wp2_with fail
  refine (refNew_empty _ A B (some a) 0).mono ?_
  rintro e w2 ⟨rfl, hw⟩
  subst hw
  go_wp2_with fail
  refine (returned_empty w2 p B0 _ ev es a gb cap HR1.out (H5.out.keep kk (by simp)) (ownsRow_keep HE.out kk (by simp)) (by omega) (by omega) (fun h => by have := hew gb h; omega) hep hne).mono ?_
  rintro e w3 ⟨rfl, hp⟩
  go_wp2
  go_ret
  refine ⟨rfl, made_post kk hp ?_ ?_ hew⟩
  · intro b hb
    have : gb = b := by simpa [Value.ownBlock] using hb
    omega
  · intro b hb
    have : gb = b := by simpa [Value.ownBlock] using hb
    omega

end Go.Proofs.Ytcbfmolebomkdaa
