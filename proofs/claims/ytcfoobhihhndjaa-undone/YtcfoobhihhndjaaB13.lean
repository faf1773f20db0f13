/- The program's queue: where a thing stands (slices.Index). -/
import Derived.LaidEqlPtr
import Derived.Sort.WalkB12
import Derived.Test.YtcfoobhihhndjaaB01
import Derived.Test.YtcfoobhihhndjaaB02
namespace Go.Proofs.Ytcfoobhihhndjaa

section
open Go.RowKit Go.Sort

theorem ptr_same (w : World) (x : Nat) : (binOp .eql 90 (.pointer (some ⟨x, 0, none⟩)) (.pointer (some ⟨x, 0, none⟩))).run Try.prog w = .ok (.bool true) w := by
  obtain ⟨j, hj⟩ : ∃ j, Try.prog.info? 42 = some j := Option.isSome_iff_exists.1 (by kernel_rfl)
  exact run_eql_ptr_same w _ (te := 42) Try.underlying90 hj

theorem ptr_other (w : World) (x y : Nat) (h : x ≠ y) (hx : Plain w x) (hy : Plain w y) : (binOp .eql 90 (.pointer (some ⟨x, 0, none⟩)) (.pointer (some ⟨y, 0, none⟩))).run Try.prog w = .ok (.bool false) w := by
  obtain ⟨j, hj, hz⟩ : ∃ j, Try.prog.info? 42 = some j ∧ j.size ≠ 0 := by
    have e : (Try.prog.info? 42).map (fun i => i.size) = some 8 := by kernel_rfl
    cases q : Try.prog.info? 42 with
    | none => rw [q] at e; cases e
    | some j =>
      rw [q] at e
      have e8 : j.size = 8 := by simpa using e
      exact ⟨j, rfl, by omega⟩
  obtain ⟨c1, t1, e1⟩ := hx
  obtain ⟨c2, t2, e2⟩ := hy
  exact run_eql_ptr_other w (te := 42) Try.underlying90 hj hz (fun q => h (by injection q)) e1 e2

set_option maxHeartbeats 1000000 in
set_option maxRecDepth 100000 in
theorem index_any (w : World) (b n c x i : Nat) (zs : List Nat) (hn : zs.length = n) (h60 : n ≤ 1000000) (hc : ∀ j (hj : j < zs.length), w.cell? ⟨b, j, none⟩ = some (.pointer (some ⟨zs[j], 0, none⟩))) (hp : ∀ (j z : Nat), zs[j]? = some z → Plain w z) (hi : zs[i]? = some x) (hne : ∀ j, j < i → zs[j]? ≠ some x) :
    Calls Try.prog 92 #[.slice (some ⟨b, 0, none⟩) n c, .pointer (some ⟨x, 0, none⟩)] w fun e w' => e = .returned (.int .i64 i) ∧ w' = w := by
  have hil : i < zs.length := (List.getElem?_eq_some_iff.1 hi).1
  have HC := hide hc
  have HN := hide hne
  have HI := hide hi
  have HP := hide hp
  clear hc hne hi hp
  go_enter Try.func92, Try.ntmps92
  go_wp2
  go_loop [8] (fun k => ∃ j : Nat, j ≤ i ∧ k = .int .i64 j) (fun k => i - (intOf k).toNat)
  case atStart => exact ⟨0, Nat.zero_le _, rfl⟩
  case round =>
    obtain ⟨j, hj, rfl⟩ := hrel
    have hjn : (j : Int) < (n : Int) := by omega
    have hjz : j < zs.length := by omega
    have cj := HC.out j hjz
    by_cases e : j = i
    · subst e
      have ex : zs[j] = x := by have := HI.out; rw [List.getElem?_eq_getElem hjz] at this; simpa using this
      rw [ex] at cj
      clear ex
      have eq := ptr_same w x
      go_wp2
      go_ret
      exact ⟨rfl, rfl⟩
    · have hx : zs[j] ≠ x := fun q => HN.out j (by omega) (by rw [List.getElem?_eq_getElem hjz, q])
      have eq := ptr_other w x zs[j] (fun q => hx q.symm) (HP.out i x HI.out) (HP.out j _ (List.getElem?_eq_getElem hjz))
      generalize zs[j] = y at *
      clear hx
      go_wp2
      refine ⟨⟨j + 1, by omega, rfl⟩, ?_⟩
      have e1 : (intOf (.int .i64 ((j : Int) + 1))).toNat = j + 1 := by simp only [intOf]; omega
      have e2 : (intOf (.int .i64 (j : Int))).toNat = j := by simp only [intOf]; omega
      omega
end

end Go.Proofs.Ytcfoobhihhndjaa
