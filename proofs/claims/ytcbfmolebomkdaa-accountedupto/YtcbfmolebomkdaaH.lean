/- The document's market: New. -/
import Derived.Test.YtcbfmolebomkdaaD
import Derived.Deep.AppendLies
namespace Go.Proofs.Ytcbfmolebomkdaa
open Go.RowKit Go.Sort

theorem info3 : (Try.prog.info? 3).map (fun i => (i.zero, i.size, i.bytes)) = some (some (.int .i64 0), 1, 8) := by kernel_rfl

/-- Whole numbers in a slice. -/
def IntsAt (w : World) (v : Value) (rs : List Int) : Prop :=
  (v = .slice none 0 0 ∧ rs = []) ∨ ∃ b off cap, v = .slice (some ⟨b, off, none⟩) rs.length cap ∧ ∀ i x, rs[i]? = some x → w.cell? ⟨b, off + i, none⟩ = some (.int .i64 x)

theorem IntsAt.keep {w w' : World} {v : Value} {rs : List Int} {S : List Nat} (h : IntsAt w v rs) (k : Keeps S w w') (hv : ∀ a n c, v = .slice (some a) n c → a.block ∉ S) : IntsAt w' v rs := by
  rcases h with h | ⟨b, off, cap, rfl, h⟩
  · exact .inl h
  · exact .inr ⟨b, off, cap, rfl, fun i x hx => k.cell (h i x hx) (hv ⟨b, off, none⟩ _ _ rfl)⟩

theorem IntsAt.form {w : World} {v : Value} {rs : List Int} (h : IntsAt w v rs) : ∃ a c, v = .slice a rs.length c := by
  rcases h with ⟨rfl, rfl⟩ | ⟨b, off, cap, rfl, _⟩
  · exact ⟨_, _, rfl⟩
  · exact ⟨_, _, rfl⟩

def rateOk (r : Int) : Bool := decide (0 ≤ r) && decide (r ≤ 100)
def sizeOk (t g : Int) (rs : List Int) : Bool := decide (1 ≤ t) && decide (t ≤ 8) && decide (1 ≤ g) && decide (g ≤ 4) && decide (1 ≤ rs.length) && decide (rs.length ≤ 4) && rs.all rateOk
def newM (T G H : Nat) : Mk := ⟨T, G, H, fun _ => 0, fun _ _ _ => 0, [], 0⟩

def size1 (t g : Int) (n : Nat) : Bool := decide (1 ≤ t) && decide (t ≤ 8) && decide (1 ≤ g) && decide (g ≤ 4) && decide (1 ≤ n) && decide (n ≤ 4)

theorem all_snoc (rs : List Int) (j : Nat) (hlt : j < rs.length) : (rs.take (j + 1)).all rateOk = ((rs.take j).all rateOk && rateOk rs[j]) := by
  rw [List.take_succ_eq_append_getElem hlt, List.all_append]
  simp only [List.all_cons, List.all_nil, Bool.and_true]

set_option maxRecDepth 100000 in
set_option maxHeartbeats 1000000 in
theorem refNew_no (w : World) (t g : Int) (v : Value) (rs : List Int) (hr : IntsAt w v rs) (hl : rs.length ≤ 1048576) (hn : sizeOk t g rs = false) :
    Calls Try.prog 26 #[.int .i64 t, .int .i64 g, v] w fun e w' => e = .returned (.tuple #[.pointer none, .int .i64 1]) ∧ w' = w := by
  obtain ⟨a, c, rfl⟩ := hr.form
  have HN := hide hn
  have HR := hide hr
  clear hn hr
  go_enter Try.func26, Try.ntmps26
  go_wp2
  all_goals
    go_loop [8, 9] (fun ok i => ∃ (j : Nat) (b : Bool), j ≤ rs.length ∧ i = .int .i64 j ∧ ok = .bool b ∧ b = (size1 t g rs.length && (rs.take j).all rateOk)) (fun _ i => rs.length - (intOf i).toNat)
    case atStart => exact ⟨0, _, Nat.zero_le _, rfl, rfl, by rw [Bool.eq_iff_iff]; simp [size1]; omega⟩
    case round =>
      obtain ⟨j, b, hj, rfl, rfl, hb⟩ := hrel
      have HB := hide hb
      clear hb
      by_cases hlt : j < rs.length
      · have HA := hide (all_snoc rs j hlt)
        rcases HR.out with ⟨_, h⟩ | ⟨rb, off, cap, h, hc⟩
        · subst h; simp at hlt
        · simp only [Value.slice.injEq, true_and] at h
          obtain ⟨rfl, rfl⟩ := h
          have q := hc j rs[j] (by simp)
          have hq : Hid (rateOk rs[j] = (decide (0 ≤ rs[j]) && decide (rs[j] ≤ 100))) := hide rfl
          clear hc
          generalize rs[j] = x at *
          cases b
          · go_wp2
            refine ⟨⟨j + 1, _, by omega, by go_num, rfl, ?_⟩, by simp [intOf]; omega⟩
            rw [HA.out, ← Bool.and_assoc, ← HB.out]
            simp
          · by_cases h0 : 0 ≤ x
            · go_wp2
              refine ⟨⟨j + 1, _, by omega, by go_num, rfl, ?_⟩, by simp [intOf]; omega⟩
              rw [HA.out, ← Bool.and_assoc, ← HB.out, hq.out]
              simp [h0]
            · go_wp2
              refine ⟨⟨j + 1, _, by omega, by go_num, rfl, ?_⟩, by simp [intOf]; omega⟩
              rw [HA.out, ← Bool.and_assoc, ← HB.out, hq.out]
              simp [h0]
      · have e1 : j = rs.length := by omega
        subst e1
        have hb : b = false := by
          rw [HB.out, List.take_of_length_le (Nat.le_refl _)]
          have := HN.out
          simpa [sizeOk, size1] using this
        subst hb
        go_wp2
        go_ret2
        exact ⟨rfl, rfl⟩

end Go.Proofs.Ytcbfmolebomkdaa
