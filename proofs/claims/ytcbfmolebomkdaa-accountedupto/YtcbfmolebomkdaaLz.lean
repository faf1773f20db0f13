/- The law: step, whatever its kind. -/
import Derived.Test.YtcbfmolebomkdaaLt
import Derived.Test.YtcbfmolebomkdaaLu
import Derived.Test.YtcbfmolebomkdaaLw
import Derived.Test.YtcbfmolebomkdaaLx
import Derived.Test.YtcbfmolebomkdaaLy
namespace Go.Proofs.Ytcbfmolebomkdaa
open Go.RowKit

theorem step_other (w : World) (B0 p : Nat) (N : Int) (s : St) (o : OpV) (hrv : RvOk w o.rv) (h : Inv B0 p N s w) (bN : N ≤ 900000000000) (hn2 : s.n ≤ 4000000) (hal : s.al.length ≤ 4000000) (hM : -9223372036854775808 ≤ o.M ∧ o.M ≤ 9223372036854775807) (hk : o.kd ≤ 8) (h1 : o.kd ≠ 1) :
    Calls Try.prog 6 #[.pointer (some ⟨p, 0, none⟩), .agg o.cells] w fun e w' => e = .returned (.bool true) ∧ StepPost 0 0 w B0 p N s w' := by
  obtain ⟨ra, rn, rc, hf⟩ := hrv.form
  by_cases hn : s.n = 0
  · exact step_none w B0 p N s o ra rn rc hf h bN hn h1
  have hn1 : 1 ≤ s.n := by omega
  by_cases h0 : o.kd ≤ 0
  · exact step_on0 w B0 p N s o ra rn rc hf h bN hn1 hn2 hM h0
  have hc : o.kd = 2 ∨ o.kd = 3 ∨ o.kd = 4 ∨ o.kd = 5 ∨ o.kd = 6 ∨ o.kd = 7 ∨ o.kd = 8 := by omega
  rcases hc with q | q | q | q | q | q | q
  · exact step_on2 w B0 p N s o ra rn rc hf h bN hn1 hn2 hM q
  · exact step_on3 w B0 p N s o ra rn rc hf h bN hn1 hn2 hM q
  · exact step_on4 w B0 p N s o ra rn rc hf h bN hn1 hn2 hM q
  · exact step_on5 w B0 p N s o ra rn rc hf h bN hn1 hn2 hM q
  · exact step_on6 w B0 p N s o ra rn rc hf h bN hn1 hn2 hal hM q
  · exact step_on7 w B0 p N s o ra rn rc hf h bN hn1 hn2 hM q
  · exact step_on8 w B0 p N s o ra rn rc hf h bN hn1 hn2 hM q

theorem step_any (w : World) (B0 p : Nat) (N : Int) (s : St) (o : OpV) (hrv : RvOk w o.rv) (h : Inv B0 p N s w) (bN0 : 0 ≤ N) (bN : N ≤ 900000000000) (hn2 : s.n ≤ 4000000) (hal : s.al.length ≤ 4000000) (hes : s.es.length ≤ 4000000) (hM : -9223372036854775808 ≤ o.M ∧ o.M ≤ 9223372036854775807) (hk : o.kd ≤ 8) :
    Calls Try.prog 6 #[.pointer (some ⟨p, 0, none⟩), .agg o.cells] w fun e w' => e = .returned (.bool true) ∧ StepPost 0 1 w B0 p N s w' := by
  by_cases h1 : o.kd = 1
  · exact step_on1 w B0 p N s o hrv h bN0 bN hn2 hes h1
  refine (step_other w B0 p N s o hrv h bN hn2 hal hM hk h1).mono ?_
  rintro e w' ⟨rfl, P⟩
  exact ⟨rfl, P.wide (by omega) (by omega)⟩

end Go.Proofs.Ytcbfmolebomkdaa
