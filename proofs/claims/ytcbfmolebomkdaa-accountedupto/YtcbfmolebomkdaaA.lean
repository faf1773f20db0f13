/- Contracts of the small functions that only compute or only read. -/
import Derived.Test.YtcbfmolebomkdaaProg
import Derived.Test.YtcbfmolebomkdaaKeep
import Derived.Deep.QuietTactic
import Derived.BigQuiet
namespace Go.Proofs.Ytcbfmolebomkdaa
open Go.RowKit

theorem mul_bd {a b A B : Int} (h0 : 0 ≤ a) (h1 : a ≤ A) (h2 : 0 ≤ b) (h3 : b ≤ B) : 0 ≤ a * b ∧ a * b ≤ A * B :=
  ⟨Int.mul_nonneg h0 h2, Int.mul_le_mul h1 h3 h2 (Int.le_trans h0 h1)⟩

set_option maxHeartbeats 400000 in
theorem lot_any (c rb rcap : Nat) (H : Nat) (G t h g : Int) (w : World) (h1 : w.cell? ⟨c, 1, none⟩ = some (.int .i64 G)) (h2 : w.cell? ⟨c, 2, none⟩ = some (.slice (some ⟨rb, 0, none⟩) H rcap))
    (bt : 0 ≤ t) (bt' : t ≤ 8) (bh : 0 ≤ h) (bh' : h ≤ 4) (bg : 0 ≤ g) (bg' : g ≤ 4) (bG : 0 ≤ G) (bG' : G ≤ 4) (bH : (H : Int) ≤ 4) :
    Calls Try.prog 72 #[.pointer (some ⟨c, 0, none⟩), .int .i64 t, .int .i64 h, .int .i64 g] w fun e w' => e = .returned (.int .i64 ((t * (H : Int) + h) * G + g)) ∧ ∃ n, w' = w.drewN n := by
  have b1 := mul_bd bt bt' (Int.natCast_nonneg H) bH
  obtain ⟨b1, b1'⟩ := b1
  have b2 := mul_bd (a := t * (H : Int) + h) (A := 36) (b := G) (B := 4) (by omega) (by omega) (by omega) (by omega)
  obtain ⟨b2, b2'⟩ := b2
  go_enter Try.func72, Try.ntmps72
  go_wp2
  go_quiet (fail)
  go_wp2
  go_ret
  exact ⟨rfl, _, rfl⟩

theorem trader_yes (c T : Nat) (i : Int) (w : World) (h0 : w.cell? ⟨c, 0, none⟩ = some (.int .i64 T)) (h : 0 ≤ i ∧ i < (T : Int)) :
    Calls Try.prog 55 #[.pointer (some ⟨c, 0, none⟩), .int .i64 i] w fun e w' => e = .returned (.bool true) ∧ w' = w := by
  obtain ⟨h1, h2⟩ := h
  go_enter Try.func55, Try.ntmps55
  go_wp2
  go_ret
  exact ⟨rfl, rfl⟩

theorem trader_no (c T : Nat) (i : Int) (w : World) (h0 : w.cell? ⟨c, 0, none⟩ = some (.int .i64 T)) (h : ¬ (0 ≤ i ∧ i < (T : Int))) :
    Calls Try.prog 55 #[.pointer (some ⟨c, 0, none⟩), .int .i64 i] w fun e w' => e = .returned (.bool false) ∧ w' = w := by
  by_cases h1 : 0 ≤ i
  · have h2 : ¬ i < (T : Int) := fun q => h ⟨h1, q⟩
    clear h
    go_enter Try.func55, Try.ntmps55
    go_wp2
    go_ret
    exact ⟨rfl, rfl⟩
  · clear h
    go_enter Try.func55, Try.ntmps55
    go_wp2
    go_ret
    exact ⟨rfl, rfl⟩

theorem good_yes (c T : Nat) (i : Int) (w : World) (h0 : w.cell? ⟨c, 1, none⟩ = some (.int .i64 T)) (h : 0 ≤ i ∧ i < (T : Int)) :
    Calls Try.prog 78 #[.pointer (some ⟨c, 0, none⟩), .int .i64 i] w fun e w' => e = .returned (.bool true) ∧ w' = w := by
  obtain ⟨h1, h2⟩ := h
  go_enter Try.func78, Try.ntmps78
  go_wp2
  go_ret
  exact ⟨rfl, rfl⟩

theorem good_no (c T : Nat) (i : Int) (w : World) (h0 : w.cell? ⟨c, 1, none⟩ = some (.int .i64 T)) (h : ¬ (0 ≤ i ∧ i < (T : Int))) :
    Calls Try.prog 78 #[.pointer (some ⟨c, 0, none⟩), .int .i64 i] w fun e w' => e = .returned (.bool false) ∧ w' = w := by
  by_cases h1 : 0 ≤ i
  · have h2 : ¬ i < (T : Int) := fun q => h ⟨h1, q⟩
    clear h
    go_enter Try.func78, Try.ntmps78
    go_wp2
    go_ret
    exact ⟨rfl, rfl⟩
  · clear h
    go_enter Try.func78, Try.ntmps78
    go_wp2
    go_ret
    exact ⟨rfl, rfl⟩

theorem hall_yes (c H : Nat) (a : Option Addr) (cap : Nat) (i : Int) (w : World) (h0 : w.cell? ⟨c, 2, none⟩ = some (.slice a H cap)) (h : 0 ≤ i ∧ i < (H : Int)) :
    Calls Try.prog 76 #[.pointer (some ⟨c, 0, none⟩), .int .i64 i] w fun e w' => e = .returned (.bool true) ∧ w' = w := by
  obtain ⟨h1, h2⟩ := h
  go_enter Try.func76, Try.ntmps76
  go_wp2
  go_ret
  exact ⟨rfl, rfl⟩

theorem hall_no (c H : Nat) (a : Option Addr) (cap : Nat) (i : Int) (w : World) (h0 : w.cell? ⟨c, 2, none⟩ = some (.slice a H cap)) (h : ¬ (0 ≤ i ∧ i < (H : Int))) :
    Calls Try.prog 76 #[.pointer (some ⟨c, 0, none⟩), .int .i64 i] w fun e w' => e = .returned (.bool false) ∧ w' = w := by
  by_cases h1 : 0 ≤ i
  · have h2 : ¬ i < (H : Int) := fun q => h ⟨h1, q⟩
    clear h
    go_enter Try.func76, Try.ntmps76
    go_wp2
    go_ret
    exact ⟨rfl, rfl⟩
  · clear h
    go_enter Try.func76, Try.ntmps76
    go_wp2
    go_ret
    exact ⟨rfl, rfl⟩

end Go.Proofs.Ytcbfmolebomkdaa
