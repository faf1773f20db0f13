/- The law: pick, lent, returned, whole, rest. -/
import Derived.Test.YtcbfmolebomkdaaLd
namespace Go.Proofs.Ytcbfmolebomkdaa
open Go.RowKit

theorem ret_int' {k : IntKind} {a b : Int} (h : a = b) : Ending.returned (.int k a) = .returned (.int k b) := by rw [h]

set_option maxHeartbeats 400000 in
theorem pick_any (c : Int) (n : Nat) (w : World) (h0 : -9223372036854775808 ≤ c) (h1 : c ≤ 9223372036854775807) (hn : 1 ≤ n) (hn2 : n ≤ 10000000) :
    Calls Try.prog 10 #[.int .i64 c, .int .i64 n] w fun e w' => ∃ k : Nat, e = .returned (.int .i64 k) ∧ k < n ∧ w' = w := by
  by_cases hc : c < 0
  · obtain ⟨j, hj⟩ := Int.eq_ofNat_of_zero_le (by omega : 0 ≤ -(c + 1))
    have HJ := hide (show c + 1 = -(j : Int) by omega)
    clear hj
    go_enter Try.func10, Try.ntmps10
    go_wp2
    go_ret
    refine ⟨j % n, ret_int' ?_, Nat.mod_lt _ hn, rfl⟩
    rw [HJ.out, Int.neg_tmod, Int.neg_neg, Int.tmod_eq_emod_of_nonneg (by omega), Int.natCast_emod]
  · obtain ⟨c, rfl⟩ := Int.eq_ofNat_of_zero_le (by omega : 0 ≤ c)
    go_enter Try.func10, Try.ntmps10
    go_wp2
    go_ret
    exact ⟨c % n, ret_int' (by rw [Int.natCast_emod]), Nat.mod_lt _ hn, rfl⟩

set_option maxRecDepth 100000 in
set_option maxHeartbeats 1000000 in
theorem lent_nil (w : World) : Calls Try.prog 24 #[.slice none 0 0] w fun e w' => e = .returned (.slice none 0 0) ∧ w' = w := by
  have hnil := fun (w : World) (a : Option Addr) (n c : Nat) => Lib.run_eql_slice_nil (P := Try.prog) w 38 3 a n c 0 0 Try.underlying38
  go_enter Try.func24, Try.ntmps24
  go_wp2
  go_ret
  exact ⟨rfl, rfl⟩

theorem ints_news' {w : World} {rb off : Nat} {rs : List Int} (h : ∀ i x, rs[i]? = some x → w.cell? ⟨rb, off + i, none⟩ = some (.int .i64 x)) :
    ∀ j u, (rs.map (Value.int .i64))[j]? = some u → w.cell? ((⟨rb, off, none⟩ : Addr).add j) = some u := by
  intro j u hu
  simp only [List.getElem?_map, Option.map_eq_some_iff] at hu
  obtain ⟨x, hx, rfl⟩ := hu
  have hadd : (⟨rb, off, none⟩ : Addr).add j = ⟨rb, off + j, none⟩ := by unfold Addr.add; split <;> simp_all
  rw [hadd]
  exact h j x hx

/-- the list that is lent: the numbers, and eight more -/
def nines (k : Nat) : List Int := (List.range k).map fun i : Nat => 900 + (i : Int)
theorem nines_succ (k : Nat) : nines (k + 1) = nines k ++ [900 + (k : Int)] := by simp [nines, List.range_succ]

set_option maxRecDepth 100000 in
set_option maxHeartbeats 1000000 in
theorem lent_some (w : World) (rb off rc : Nat) (rs : List Int) (hc : ∀ i x, rs[i]? = some x → w.cell? ⟨rb, off + i, none⟩ = some (.int .i64 x)) (hn : rs.length ≤ 2000000) :
    Calls Try.prog 24 #[.slice (some ⟨rb, off, none⟩) rs.length rc] w fun e w' => ∃ gb cap, e = .returned (.slice (some ⟨gb, 0, none⟩) rs.length cap) ∧ Keeps [] w w' ∧
      w'.ownsRow w.heap.size 3 1 (.slice (some ⟨gb, 0, none⟩) (rs.length + 8) cap) (rs.length + 8) ((rs ++ nines 8).map (.int .i64)) := by
  have hnil := fun (w : World) (a : Option Addr) (n c : Nat) => Lib.run_eql_slice_nil (P := Try.prog) w 38 3 a n c 0 0 Try.underlying38
  obtain ⟨i3, hi3, hz30, hz31, hz32⟩ := info_parts info3
  have HC := hide hc
  clear hc
  go_enter Try.func24, Try.ntmps24
  go_wp2_with (at_builtin; (refine wpList_append_own _ rfl _ _ _ rfl w.heap.size 3 i3 _ 1 8 Try.underlying38 hi3 hz30 hz31 hz32 rfl (by omega) _ 0 [] rfl (World.ownsRow_nil _ _ _ _) ⟨rb, off, none⟩ rs.length rc (rs.map (.int .i64)) rfl (by simp) (by exact ints_news' HC.out) (ints_one rs) (by simp only [maxLen]; omega) (by omega) (Nat.le_refl _) ?_))
  intro v1 w1 hown1 hgrow1 _
  have K1 : Keeps [] w w1 := (Keeps.refl _ _).grown hgrow1 (by simp [Value.ownBlock])
  clear hgrow1
  go_wp2
  go_loopw [3, 4] (fun g i wr => ∃ k : Nat, k ≤ 8 ∧ i = .int .i64 k ∧ Keeps [] w wr ∧ wr.ownsRow w.heap.size 3 1 g (rs.length + k) ((rs ++ nines k).map (.int .i64))) (fun _ i _ => 8 - (intOf i).toNat)
  case atStart => exact ⟨0, by omega, rfl, K1, by simpa [nines] using hown1⟩
  case round =>
    clear hown1 K1
    obtain ⟨k, hk, rfl, hkp, hown⟩ := hrel
    have sz := hkp.size
    by_cases hlt : k < 8
    · go_wp2_with (at_builtin; (refine wpList_append_own _ rfl _ _ _ rfl w.heap.size 3 i3 _ 1 8 Try.underlying38 hi3 hz30 hz31 hz32 rfl (by omega) _ (rs.length + k) _ rfl (by exact hown.alloc _) ⟨wr.heap.size, 0, none⟩ 1 1 [_] rfl rfl (by exact cell_one_new _ _ _) (by simp [Value.oneCell']) (by simp only [maxLen]; omega) (by omega) (by simp; omega) ?_))
      intro v2 w2 hown2 hgrow2 _
      have K2 : Keeps [] w w2 := (hkp.alloc _).grown hgrow2 (fun b hb => .inr (hown.lt b hb).1)
      go_wp2
      refine ⟨⟨k + 1, by omega, by go_num, K2, ?_⟩, by simp [intOf]; omega⟩
      simpa [nines_succ, Nat.add_assoc] using hown2
    · have e8 : k = 8 := by omega
      subst e8
      obtain ⟨gb, cap, rfl, _, _⟩ := hown.form (by omega)
      have hcap : rs.length + 8 ≤ cap := by
        rcases hown.2 with ⟨q, _⟩ | ⟨_, _, _, q, _, _, q2, _⟩
        · simp at q
        · simp only [Value.slice.injEq, true_and] at q
          rw [q.2]; exact q2
      go_wp2
      go_ret
      exact ⟨gb, cap, by simp, hkp, hown⟩

end Go.Proofs.Ytcbfmolebomkdaa
