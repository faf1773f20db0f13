/- The statements' desk: pick; a market that is opened. -/
import Derived.Deep.RegionLaw
import Derived.LaidEqlPtr
import Derived.Sort.WalkB12
import Derived.Test.YtcfoobhihhndjaaB01
import Derived.Test.YtcfoobhihhndjaaB02
import Derived.Test.YtcfoobhihhndjaaB07
import Derived.Test.YtcfoobhihhndjaaB10
namespace Go.Proofs.Ytcfoobhihhndjaa

section
open Go.RowKit Go.Sort

/-- which of n things a raw number speaks of -/
def pk (c : Int) (n : Nat) : Nat := if c < 0 then (-(c + 1)).toNat % n else c.toNat % n

theorem pk_lt (c : Int) {n : Nat} (hn : 1 ≤ n) : pk c n < n := by
  unfold pk
  split <;> exact Nat.mod_lt _ hn

def i64R (c : Int) : Prop := -9223372036854775808 ≤ c ∧ c ≤ 9223372036854775807

set_option maxHeartbeats 400000 in
theorem pick_any (c : Int) (n : Nat) (hc : i64R c) (hn : 1 ≤ n) (hn2 : n ≤ 10000000) (w : World) :
    Calls Try.prog 10 #[.int .i64 c, .int .i64 n] w fun e w' => e = .returned (.int .i64 (pk c n)) ∧ w' = w := by
  obtain ⟨h0, h1⟩ := hc
  by_cases hc : c < 0
  · obtain ⟨j, hj⟩ := Int.eq_ofNat_of_zero_le (by omega : 0 ≤ -(c + 1))
    have HP : Hid (pk c n = j % n) := hide (by rw [pk, if_pos hc]; congr 1; omega)
    have HJ := hide (show c + 1 = -(j : Int) by omega)
    clear hj
    go_enter Try.func10, Try.ntmps10
    go_wp2
    go_ret
    refine ⟨ret_int ?_, rfl⟩
    rw [HP.out, HJ.out, Int.neg_tmod, Int.neg_neg, Int.tmod_eq_emod_of_nonneg (by omega), Int.natCast_emod]
  · obtain ⟨j, rfl⟩ := Int.eq_ofNat_of_zero_le (by omega : 0 ≤ c)
    have HP : Hid (pk j n = j % n) := hide (by rw [pk, if_neg hc]; congr 1)
    go_enter Try.func10, Try.ntmps10
    go_wp2
    go_ret
    exact ⟨ret_int (by rw [HP.out, Int.natCast_emod]), rfl⟩

/-- the rates of a market that is opened -/
def picks (rs : List Int) : List Int := rs.map fun r => (pk r 101 : Int)
def openR (rs : List Int) : List Int := if (picks (rs.take 3)) = [] then [30] else picks (rs.take 3)

/-- a desk that is being laid: its rates -/
structure OpA (w : World) (xs : List Int) (W : World) : Prop where
  kp : Kep non w W
  c0 : Own W ⟨w.heap.size, 0, none⟩ (.pointer none)
  c1 : Own W ⟨w.heap.size, 1, none⟩ (.int .i64 4)
  c2 : Own W ⟨w.heap.size, 2, none⟩ (.int .i64 2)
  c4 : Own W ⟨w.heap.size, 4, none⟩ (.int .i64 0)
  c5 : Own W ⟨w.heap.size, 5, none⟩ (.slice none 0 0)
  v : ∃ a c, Own W ⟨w.heap.size, 3, none⟩ (.slice a xs.length c) ∧ W.ownsRow (w.heap.size + 1) 3 1 (.slice a xs.length c) xs.length (xs.map (.int .i64))

theorem OpA.start (w : World) : OpA w [] (w.alloc (.cells #[.pointer none, .int .i64 4, .int .i64 2, .slice none 0 0, .int .i64 0, .slice none 0 0] 29)) := by
  have h := heap_alloc_new w (.cells #[.pointer none, .int .i64 4, .int .i64 2, .slice none 0 0, .int .i64 0, .slice none 0 0] 29)
  have c := fun j => cell_of_row _ _ j _ _ _ h
  have f := fun j => frozen_of_row _ _ j _ _ h
  exact ⟨(Kep.refl _ _).alloc _, ⟨c 0, f 0⟩, ⟨c 1, f 1⟩, ⟨c 2, f 2⟩, ⟨c 4, f 4⟩, ⟨c 5, f 5⟩, none, 0, ⟨c 3, f 3⟩, World.ownsRow_nil _ _ _ _⟩

theorem OpA.later {w : World} {xs : List Int} {W W' : World} (S : OpA w xs W) (k : Kep non W W') : OpA w xs W' := by
  have n : ∀ b, ¬ non b := fun _ f => f
  obtain ⟨a, c, h1, h2⟩ := S.v
  exact ⟨S.kp.trans k, S.c0.kep k (n _), S.c1.kep k (n _), S.c2.kep k (n _), S.c4.kep k (n _), S.c5.kep k (n _), a, c, h1.kep k (n _), ownsRow_kep h2 k (fun _ _ => n _)⟩

theorem OpA.more {w : World} {xs : List Int} {W W0 w1 : World} {a : Option Addr} {c gg cap : Nat} (S : OpA w xs W) (k0 : Kep non W W0) (h1 : Own W ⟨w.heap.size, 3, none⟩ (.slice a xs.length c)) (h2 : W.ownsRow (w.heap.size + 1) 3 1 (.slice a xs.length c) xs.length (xs.map (.int .i64)))
    (hgrow : W0.grownBy w1 (Value.slice a xs.length c).ownBlock) (x : Int) (hown1 : w1.ownsRow (w.heap.size + 1) 3 1 (.slice (some ⟨gg, 0, none⟩) (xs.length + 1) cap) (xs.length + 1) (xs.map (.int .i64) ++ [.int .i64 x])) :
    OpA w (xs ++ [x]) (w1.setCell ⟨w.heap.size, 3, none⟩ (.slice (some ⟨gg, 0, none⟩) (xs.length + 1) cap)) := by
  have fresh : ∀ b, (Value.slice a xs.length c).ownBlock = some b → w.heap.size + 1 ≤ b := fun b hb => (h2.lt b hb).1
  have k1 : Kep (fun b => (Value.slice a xs.length c).ownBlock = some b) W w1 := (k0.none (S := fun b => (Value.slice a xs.length c).ownBlock = some b)).grown hgrow (fun b hb => .inl hb)
  have n0 : ¬ (Value.slice a xs.length c).ownBlock = some w.heap.size := fun hb => by have := fresh _ hb; omega
  have oc : ∀ {j : Nat} {u : Value}, j ≠ 3 → Own W ⟨w.heap.size, j, none⟩ u → Own (w1.setCell ⟨w.heap.size, 3, none⟩ (.slice (some ⟨gg, 0, none⟩) (xs.length + 1) cap)) ⟨w.heap.size, j, none⟩ u := fun hj h => (h.kep k1 n0).set_other (by intro q; injection q with _ q _; exact hj q) rfl rfl _
  refine ⟨(S.kp.trans' k1 (fun b hb => .inr (by have := fresh b hb; omega))).setCell (p := ⟨w.heap.size, 3, none⟩) (.inr (Nat.le_refl _)) _, oc (by decide) S.c0, oc (by decide) S.c1, oc (by decide) S.c2, oc (by decide) S.c4, oc (by decide) S.c5, some ⟨gg, 0, none⟩, cap, ?_, ?_⟩
  · simpa using (h1.kep k1 n0).set rfl (.slice (some ⟨gg, 0, none⟩) (xs.length + 1) cap)
  · have := ownsRow_setCell_other hown1 (a := ⟨w.heap.size, 3, none⟩) (by intro q; have := (hown1.lt _ q).1; simp only [] at this; omega) (.slice (some ⟨gg, 0, none⟩) (xs.length + 1) cap)
    simpa using this
end

/- The program's queue: where a thing stands (slices.Index). -/
section
open Go.RowKit Go.Sort

theorem ptr_same (w : World) (x : Nat) : (binOp .eql 90 (.pointer (some ⟨x, 0, none⟩)) (.pointer (some ⟨x, 0, none⟩))).run Try.prog w = .ok (.bool true) w := by
  obtain ⟨j, hj⟩ : ∃ j, Try.prog.info? 42 = some j := Option.isSome_iff_exists.1 (by kernel_rfl)
  exact run_eql_ptr_same w _ (te := 42) Try.underlying90 hj

theorem ptr_other (w : World) (x y : Nat) (h : x ≠ y) (hx : Plain w x) (hy : Plain w y) : (binOp .eql 90 (.pointer (some ⟨x, 0, none⟩)) (.pointer (some ⟨y, 0, none⟩))).run Try.prog w = .ok (.bool false) w := by
  obtain ⟨j, hj, hz⟩ : ∃ j, Try.prog.info? 42 = some j ∧ j.size ≠ 0 := by
    have e : (Try.prog.info? 42).map (fun i => i.size) = some 8 := by kernel_rfl
    cases q : Try.prog.info? 42 with
    | none => rw [q] at e; cases e
    | some j =>
      rw [q] at e
      have e8 : j.size = 8 := by simpa using e
      exact ⟨j, rfl, by omega⟩
  obtain ⟨c1, t1, e1⟩ := hx
  obtain ⟨c2, t2, e2⟩ := hy
  exact run_eql_ptr_other w (te := 42) Try.underlying90 hj hz (fun q => h (by injection q)) e1 e2

set_option maxHeartbeats 1000000 in
set_option maxRecDepth 100000 in
theorem index_any (w : World) (b n c x i : Nat) (zs : List Nat) (hn : zs.length = n) (h60 : n ≤ 1000000) (hc : ∀ j (hj : j < zs.length), w.cell? ⟨b, j, none⟩ = some (.pointer (some ⟨zs[j], 0, none⟩))) (hp : ∀ (j z : Nat), zs[j]? = some z → Plain w z) (hi : zs[i]? = some x) (hne : ∀ j, j < i → zs[j]? ≠ some x) :
    Calls Try.prog 92 #[.slice (some ⟨b, 0, none⟩) n c, .pointer (some ⟨x, 0, none⟩)] w fun e w' => e = .returned (.int .i64 i) ∧ w' = w := by
  have hil : i < zs.length := (List.getElem?_eq_some_iff.1 hi).1
  have HC := hide hc
  have HN := hide hne
  have HI := hide hi
  have HP := hide hp
  clear hc hne hi hp
  go_enter Try.func92, Try.ntmps92
  go_wp2
  go_loop [8] (fun k => ∃ j : Nat, j ≤ i ∧ k = .int .i64 j) (fun k => i - (intOf k).toNat)
  case atStart => exact ⟨0, Nat.zero_le _, rfl⟩
  case round =>
    obtain ⟨j, hj, rfl⟩ := hrel
    have hjn : (j : Int) < (n : Int) := by omega
    have hjz : j < zs.length := by omega
    have cj := HC.out j hjz
    by_cases e : j = i
    · subst e
      have ex : zs[j] = x := by have := HI.out; rw [List.getElem?_eq_getElem hjz] at this; simpa using this
      rw [ex] at cj
      clear ex
      have eq := ptr_same w x
      go_wp2
      go_ret
      exact ⟨rfl, rfl⟩
    · have hx : zs[j] ≠ x := fun q => HN.out j (by omega) (by rw [List.getElem?_eq_getElem hjz, q])
      have eq := ptr_other w x zs[j] (fun q => hx q.symm) (HP.out i x HI.out) (HP.out j _ (List.getElem?_eq_getElem hjz))
      generalize zs[j] = y at *
      clear hx
      go_wp2
      refine ⟨⟨j + 1, by omega, rfl⟩, ?_⟩
      have e1 : (intOf (.int .i64 ((j : Int) + 1))).toNat = j + 1 := by simp only [intOf]; omega
      have e2 : (intOf (.int .i64 (j : Int))).toNat = j := by simp only [intOf]; omega
      omega
end

end Go.Proofs.Ytcfoobhihhndjaa
