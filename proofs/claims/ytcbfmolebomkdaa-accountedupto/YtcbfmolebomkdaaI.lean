/- The document's market: New, where it gives a market. -/
import Derived.Test.YtcbfmolebomkdaaH
namespace Go.Proofs.Ytcbfmolebomkdaa
open Go.RowKit Go.Sort

/-- the thirteen cells of a market that is being made -/
def Thirteen (wr : World) (c : Nat) (f : Nat → Value) : Prop := ∀ j, j < 13 → Own wr ⟨c, j, none⟩ (f j)
def upd (f : Nat → Value) (j : Nat) (v : Value) : Nat → Value := fun i => if i = j then v else f i
theorem Thirteen.later {wr wr' : World} {c : Nat} {f : Nat → Value} (h : Thirteen wr c f) {S : List Nat} (k : Keeps S wr wr') (hc : c ∉ S) : Thirteen wr' c f := fun j hj => (h j hj).keep k hc
theorem Thirteen.set {wr : World} {c : Nat} {f : Nat → Value} (h : Thirteen wr c f) (j : Nat) (hj : j < 13) (v : Value) : Thirteen (wr.setCell ⟨c, j, none⟩ v) c (upd f j v) := fun i hi => by
  by_cases e : i = j
  · subst e
    simpa [upd] using (h i hi).set rfl v
  · simpa [upd, e] using (h i hi).set_other (q := ⟨c, j, none⟩) (by intro q; injection q with _ q _; exact e q) rfl rfl v

theorem made_at {w : World} {B n : Nat} {cap : Nat} (h : w.ownsRow 0 3 1 (.slice (some ⟨B, 0, none⟩) n cap) n (madeCells #[.int .i64 0] n).toList) (k : Nat) (hk : k < n) : Own w ⟨B, k, none⟩ (.int .i64 0) := by
  refine ⟨?_, h.frozenAt k⟩
  rw [h.cellAt k (by omega), toList_madeCells_one]
  simp [hk]

theorem thirteen0 (w : World) (T G : Nat) : Thirteen (w.alloc (.cells #[.int .i64 T, .int .i64 G, .slice none 0 0, .slice none 0 0, .slice none 0 0, .slice none 0 0, .slice none 0 0, .slice none 0 0, .slice none 0 0, .slice none 0 0, .int .i64 1, .int .i64 0, .int .i64 0] 91)) w.heap.size
    (fun j => if j = 0 then .int .i64 T else if j = 1 then .int .i64 G else if j = 10 then .int .i64 1 else if j = 11 then .int .i64 0 else if j = 12 then .int .i64 0 else .slice none 0 0) := by
  intro j hj
  have h := heap_alloc_new w (.cells #[.int .i64 T, .int .i64 G, .slice none 0 0, .slice none 0 0, .slice none 0 0, .slice none 0 0, .slice none 0 0, .slice none 0 0, .slice none 0 0, .slice none 0 0, .int .i64 1, .int .i64 0, .int .i64 0] 91)
  refine ⟨?_, frozen_of_row _ _ j _ _ h⟩
  rw [cell_of_row _ _ j _ _ _ h]
  rcases j with _ | _ | _ | _ | _ | _ | _ | _ | _ | _ | _ | _ | _ | j
  all_goals first | rfl | omega

theorem ints_news {w : World} {rb off : Nat} {rs : List Int} (h : ∀ i x, rs[i]? = some x → w.cell? ⟨rb, off + i, none⟩ = some (.int .i64 x)) (o : Obj) :
    ∀ j u, (rs.map (Value.int .i64))[j]? = some u → (w.alloc o).cell? ((⟨rb, off, none⟩ : Addr).add j) = some u := by
  intro j u hu
  simp only [List.getElem?_map, Option.map_eq_some_iff] at hu
  obtain ⟨x, hx, rfl⟩ := hu
  have hadd : (⟨rb, off, none⟩ : Addr).add j = ⟨rb, off + j, none⟩ := by unfold Addr.add; split <;> simp_all
  rw [hadd]
  exact cell_later ((Below.refl _ w).alloc (Nat.le_refl _) o) (h j x hx)

theorem ints_one (rs : List Int) : ∀ u, u ∈ rs.map (Value.int .i64) → u.oneCell' = true := by
  intro u hu
  obtain ⟨x, _, rfl⟩ := List.mem_map.1 hu
  rfl

set_option maxRecDepth 100000 in
set_option maxHeartbeats 1000000 in
theorem refNew_yes (w : World) (T G : Nat) (v : Value) (rs : List Int) (hr : IntsAt w v rs) (hn : sizeOk T G rs = true) :
    Calls Try.prog 26 #[.int .i64 T, .int .i64 G, v] w fun e w' => ∃ L : RL, e = .returned (.tuple #[.pointer (some ⟨L.c, 0, none⟩), .int .i64 0]) ∧ RefRep w' L (newM T G rs.length) ∧ Keeps [] w w' ∧ ∀ b, b ∈ L.fp → w.heap.size ≤ b := by
  have hs := hn
  simp only [sizeOk, Bool.and_eq_true, decide_eq_true_eq] at hs
  obtain ⟨⟨⟨⟨⟨⟨t1, t8⟩, g1⟩, g4⟩, n1⟩, n4⟩, hall⟩ := hs
  clear hn
  rcases hr with ⟨_, h⟩ | ⟨rb, off, rc, rfl, hc⟩
  · subst h; simp at n1
  have HC := hide hc
  have HA := hide hall
  clear hc hall
  have b1 := mul_bd (a := T) (A := 8) (b := G) (B := 4) (by omega) (by omega) (by omega) (by omega)
  obtain ⟨b1, b1'⟩ := b1
  have b2 := mul_bd (a := T * G) (A := 32) (b := rs.length) (B := 4) (by omega) (by omega) (by omega) (by omega)
  obtain ⟨b2, b2'⟩ := b2
  have b3 := mul_bd (a := G) (A := 4) (b := rs.length) (B := 4) (by omega) (by omega) (by omega) (by omega)
  obtain ⟨b3, b3'⟩ := b3
  have p1 : T * G * rs.length ≤ 128 := by
    have : ((T * G * rs.length : Nat) : Int) ≤ 128 := by rw [Int.natCast_mul, Int.natCast_mul]; omega
    omega
  have p2 : G * rs.length ≤ 16 := by
    have : ((G * rs.length : Nat) : Int) ≤ 16 := by rw [Int.natCast_mul]; omega
    omega
  have n1' : (1 : Int) ≤ rs.length := by omega
  have n4' : (rs.length : Int) ≤ 4 := by omega
  obtain ⟨i0, hi0, hz0, hz1, hz2⟩ := info_parts info3
  go_enter Try.func26, Try.ntmps26
  go_wp2
  go_loop [8, 9] (fun ok i => ∃ (j : Nat), j ≤ rs.length ∧ i = .int .i64 j ∧ ok = .bool true) (fun _ i => rs.length - (intOf i).toNat)
  case atStart => exact ⟨0, Nat.zero_le _, rfl, by simp⟩
  case round =>
    obtain ⟨j, hj, rfl, rfl⟩ := hrel
    by_cases hlt : j < rs.length
    · have q := HC.out j rs[j] (by simp)
      have hq := List.all_eq_true.1 HA.out rs[j] (by simp)
      simp only [rateOk, Bool.and_eq_true, decide_eq_true_eq] at hq
      obtain ⟨q0, q1⟩ := hq
      generalize rs[j] = x at *
      go_wp2
      go_round
      case rel => exact ⟨j + 1, by omega, by go_num, by simp⟩
      case measure => simp [intOf]; omega
    · have T0 := thirteen0 w T G
      go_wp2_with (at_builtin; refine wpList_append_lies _ rfl _ _ _ rfl 0 3 i0 _ 1 8 Try.underlying38 hi0 hz0 hz1 hz2 rfl (by omega) _ 0 [] rfl (World.ownsRow_nil _ _ _ _) ⟨rb, off, none⟩ rs.length rc (rs.map (.int .i64)) rfl (by simp) (by exact ints_news HC.out _) (ints_one rs) (by omega) (by simp only [maxLen]; omega) (by omega) (by simp) (w.heap.size + 1) (by simp) ?_)
      intro gg rcap w1 hown1 hgrow1 hat1 hlt1
      obtain rfl : gg = w.heap.size + 1 := by simpa [Value.ownBlock] using hat1
      have k1 : Keeps [] _ w1 := (Keeps.refl _ _).grown hgrow1 (by simp [Value.ownBlock])
      have s1 := k1.size
      simp only [World.size_alloc] at s1
      have T1 := T0.later k1 (by simp)
      obtain ⟨z1, y1⟩ := T1 2 (by decide)
      have K1 : Keeps [] w w1 := ((Keeps.refl _ _).alloc _).trans k1
      have S1 := T1.set 2 (by decide) (.slice (some ⟨w.heap.size + 1, 0, none⟩) rs.length rcap)
      clear hat1 hgrow1 T0 k1 hown1
      go_wp2_with (at_make; refine wpList_make_full _ rfl _ _ 38 rfl 0 3 i0 _ 1 Try.underlying38 hi0 hz0 hz1 _ _ _ _ T rfl rfl rfl rfl (by rw [hz2]; omega) (by simp only [maxLen]; omega) (Nat.zero_le _) ?_)
      intro w2 hown2 hgrow2
      have k2 : Keeps [] _ w2 := (Keeps.refl _ _).grown hgrow2 (by simp)
      have T2 := S1.later k2 (by simp)
      have K2 : Keeps [] w w2 := (K1.setCell (.inr (by simp)) _).trans k2
      obtain ⟨z2, y2⟩ := T2 3 (by decide)
      have M2 : Hid (∀ k, k < T → Own w2 ⟨w1.heap.size, k, none⟩ (.int .i64 0)) := hide fun k hk => made_at hown2 k hk
      clear hown2 hgrow2
      have S2 := T2.set 3 (by decide) (.slice (some ⟨w1.heap.size, 0, none⟩) T T)
      go_wp2_with (at_make; refine wpList_make_full _ rfl _ _ 38 rfl 0 3 i0 _ 1 Try.underlying38 hi0 hz0 hz1 _ _ _ _ (T * G * rs.length) rfl rfl (by simp only [Int.natCast_mul]) (by simp only [Int.natCast_mul]) (by rw [hz2]; omega) (by simp only [maxLen]; omega) (Nat.zero_le _) ?_)
      intro w3 hown3 hgrow3
      have k3 : Keeps [] _ w3 := (Keeps.refl _ _).grown hgrow3 (by simp)
      have T3 := S2.later k3 (by simp)
      have K3 : Keeps [] w w3 := (K2.setCell (.inr (by simp)) _).trans k3
      obtain ⟨z3, y3⟩ := T3 4 (by decide)
      have M3 : Hid (∀ k, k < T * G * rs.length → Own w3 ⟨w2.heap.size, k, none⟩ (.int .i64 0)) := hide fun k hk => made_at hown3 k hk
      clear hown3 hgrow3
      have S3 := T3.set 4 (by decide) (.slice (some ⟨w2.heap.size, 0, none⟩) (T * G * rs.length) (T * G * rs.length))
      go_wp2_with (at_make; refine wpList_make_full _ rfl _ _ 38 rfl 0 3 i0 _ 1 Try.underlying38 hi0 hz0 hz1 _ _ _ _ (G * rs.length) rfl rfl (by simp only [Int.natCast_mul]) (by simp only [Int.natCast_mul]) (by rw [hz2]; omega) (by simp only [maxLen]; omega) (Nat.zero_le _) ?_)
      intro w4 hown4 hgrow4
      have k4 : Keeps [] _ w4 := (Keeps.refl _ _).grown hgrow4 (by simp)
      have T4 := S3.later k4 (by simp)
      have K4 : Keeps [] w w4 := (K3.setCell (.inr (by simp)) _).trans k4
      obtain ⟨z4, y4⟩ := T4 7 (by decide)
      clear hown4 hgrow4
      have S4 := T4.set 7 (by decide) (.slice (some ⟨w3.heap.size, 0, none⟩) (G * rs.length) (G * rs.length))
      go_wp2_with (at_make; refine wpList_make_full _ rfl _ _ 38 rfl 0 3 i0 _ 1 Try.underlying38 hi0 hz0 hz1 _ _ _ _ (G * rs.length) rfl rfl (by simp only [Int.natCast_mul]) (by simp only [Int.natCast_mul]) (by rw [hz2]; omega) (by simp only [maxLen]; omega) (Nat.zero_le _) ?_)
      intro w5 hown5 hgrow5
      have k5 : Keeps [] _ w5 := (Keeps.refl _ _).grown hgrow5 (by simp)
      have T5 := S4.later k5 (by simp)
      have K5 : Keeps [] w w5 := (K4.setCell (.inr (by simp)) _).trans k5
      obtain ⟨z5, y5⟩ := T5 8 (by decide)
      clear hown5 hgrow5
      have S5 := T5.set 8 (by decide) (.slice (some ⟨w4.heap.size, 0, none⟩) (G * rs.length) (G * rs.length))
      go_wp2_with (at_make; refine wpList_make_full _ rfl _ _ 38 rfl 0 3 i0 _ 1 Try.underlying38 hi0 hz0 hz1 _ _ _ _ (G * rs.length) rfl rfl (by simp only [Int.natCast_mul]) (by simp only [Int.natCast_mul]) (by rw [hz2]; omega) (by simp only [maxLen]; omega) (Nat.zero_le _) ?_)
      intro w6 hown6 hgrow6
      have k6 : Keeps [] _ w6 := (Keeps.refl _ _).grown hgrow6 (by simp)
      have T6 := S5.later k6 (by simp)
      have K6 : Keeps [] w w6 := (K5.setCell (.inr (by simp)) _).trans k6
      obtain ⟨z6, y6⟩ := T6 9 (by decide)
      clear hown6 hgrow6
      have S6 := T6.set 9 (by decide) (.slice (some ⟨w5.heap.size, 0, none⟩) (G * rs.length) (G * rs.length))
      go_wp2
      go_ret2
      have q2 := k2.size
      have q3 := k3.size
      have q7 : w1.heap.size < w2.heap.size := (M2.out 0 (by omega)).lt
      have q4 := k4.size
      have q5 := k5.size
      have q6 := k6.size
      simp only [World.size_setCell] at q2 q3 q4 q5 q6
      have n5 : Keeps [w.heap.size] w3 (w6.setCell ⟨w.heap.size, 9, none⟩ (.slice (some ⟨w5.heap.size, 0, none⟩) (G * rs.length) (G * rs.length))) :=
        ((((((((Keeps.refl _ _).setCell (.inl (by simp)) _).trans (k4.mono (by simp))).setCell (.inl (by simp)) _).trans (k5.mono (by simp))).setCell (.inl (by simp)) _).trans (k6.mono (by simp))).setCell (.inl (by simp)) _)
      have n4 : Keeps [w.heap.size] w2 (w6.setCell ⟨w.heap.size, 9, none⟩ (.slice (some ⟨w5.heap.size, 0, none⟩) (G * rs.length) (G * rs.length))) := (((Keeps.refl _ _).setCell (.inl (by simp)) _).trans (k3.mono (by simp))).trans n5
      refine ⟨⟨w.heap.size, w.heap.size + 1, rcap, w1.heap.size, w2.heap.size, .slice none 0 0⟩, by simp, ?_, K6.setCell (.inr (by simp)) _, ?_⟩
      · refine ⟨?_, ?_, ?_, ?_, ?_, ?_, ?_, ?_, ?_, fun t ht => ?_, fun t h g ht hh hg => ?_, World.ownsRow_nil _ _ _ _, by simp; omega, by simp; omega, by simp; omega, by simp [Value.ownBlock], by simp [Value.ownBlock], by simp [Value.ownBlock]⟩
        · exact S6 0 (by decide)
        · exact S6 1 (by decide)
        · exact S6 2 (by decide)
        · exact S6 3 (by decide)
        · exact S6 4 (by decide)
        · exact S6 5 (by decide)
        · exact S6 6 (by decide)
        · exact S6 11 (by decide)
        · exact S6 12 (by decide)
        · exact (M2.out t ht).keep n4 (by simp; omega)
        · exact (M3.out _ (lot_lt ht hh hg)).keep n5 (by simp; omega)
      · intro b hb
        simp only [RL.fp, Value.ownBlock, Option.toList_none, List.append_nil, List.mem_cons, List.not_mem_nil, or_false] at hb
        omega

end Go.Proofs.Ytcbfmolebomkdaa
