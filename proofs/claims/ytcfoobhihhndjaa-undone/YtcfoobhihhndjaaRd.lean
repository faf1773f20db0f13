/- Rates and steps, read out of memory. -/
import Derived.Carry
import Derived.Deep.Slices
import Derived.OpenShut
import Derived.ProofKit
import Derived.Test.YtcfoobhihhndjaaB45
namespace Go.Proofs.Ytcfoobhihhndjaa
open Go.ChangeShapes Go.WideShapes Go.ChangeAt Go.RowKit Go.Deep

theorem own : ownKnob Try.prog.godebug = none := by kernel_rfl
theorem laidOut : laidOutB Try.prog = true := by kernel_rfl
theorem cellsStep : Try.prog.cellsOf 39 = 6 := by kernel_rfl
theorem cellsInt : Try.prog.cellsOf 3 = 1 := by kernel_rfl

section
variable {H : Type} {enc : TypeId × Value → H} {w : World} {base : Nat} {held : Bool}

theorem spot_of {P : Program} {t e : TypeId} {a : Addr} {len cap : Nat} (ht : P.underlying t = some (.slice e)) (h : Value.okWide P w .any base t (.slice (some a) len cap)) : a.spot = none := by
  simp only [Value.okWide, ht, Cell.okWide, Cell.ok, World.has] at h
  exact h.2.2.2.1

set_option maxRecDepth 100000 in
theorem int_of {spare : Nat → Bool} {n : Nat} {v : Value} {y : DataW H × List MemPlace} (h : DataW.trod enc Try.prog w base spare held n 3 [v] = some y) : ∃ k : Int, v = .int .i64 k ∧ i64R k := by
  obtain ⟨k, e, _, hw⟩ := DataW.trod_int Try.underlying3 h
  refine ⟨k, by simpa using e, ?_⟩
  unfold i64R
  simpa [Lit.wf, IntKind.min, IntKind.max, IntKind.signed, IntKind.bits] using hw

set_option maxRecDepth 100000 in
/-- rates -/
theorem rates_of {n : Nat} {v : Value} {y : DataW H × List MemPlace} (hv : Value.okWide Try.prog w .any base 24 v) (h : DataW.trod enc Try.prog w 0 (fun _ => true) held n 24 [v] = some y) : ∃ rs : List Int, IntsAt w v rs ∧ ∀ x ∈ rs, i64R x := by
  rcases open_ints Try.underlying24 Try.underlying3 cellsInt h with ⟨e, _⟩ | ⟨a, len, cap, zs, e, _, hl, _, hz, hy, hc, hwf⟩
  · exact ⟨[], .inl ⟨by simpa using e, rfl⟩, by simp⟩
  · have e : v = .slice (some a) len cap := by simpa using e
    subst e
    have hsp := spot_of Try.underlying24 hv
    obtain ⟨b, off, sp⟩ := a
    have hsp : sp = none := hsp
    subst hsp
    simp only [if_true] at hz
    have hlen : (zs.take len).length = len := by rw [List.length_take]; omega
    refine ⟨zs.take len, .inr ⟨b, off, cap, by rw [hlen], fun i x q => ?_⟩, fun x hx => ?_⟩
    · have hi : i < len := by
        have := (List.getElem?_eq_some_iff.1 q).1
        omega
      have hx : zs[i]? = some x := by rw [List.getElem?_take] at q; simpa [hi] using q
      have := hc i (by omega)
      rw [add_plain] at this
      rw [this]
      simp [List.getD, hx]
    · have := hwf x (List.mem_of_mem_take hx)
      unfold i64R
      simpa [Lit.wf, IntKind.min, IntKind.max, IntKind.signed, IntKind.bits] using this

set_option maxRecDepth 100000 in
/-- a step -/
theorem step_of {spare : Nat → Bool} {n : Nat} {cs : List Value} {x : DataW H × List MemPlace} (h : DataW.trod enc Try.prog w base spare held n 39 cs = some x) : ∃ s : Stp, cs = s.cells ∧ s.ok := by
  obtain ⟨xs, m, rfl, rfl, hl, hxl, hf⟩ := DataW.trod_struct Try.underlying39 h
  rw [cellsStep] at hl
  match xs, hxl, cs, hl with
  | [y0, y1, y2, y3, y4, y5], _, [v0, v1, v2, v3, v4, v5], _ =>
    have g0 := hf 0 _ rfl
    have g1 := hf 1 _ rfl
    have g2 := hf 2 _ rfl
    have g3 := hf 3 _ rfl
    have g4 := hf 4 _ rfl
    have g5 := hf 5 _ rfl
    simp only [List.getElem?_cons_zero, List.getElem?_cons_succ] at g0 g1 g2 g3 g4 g5
    obtain ⟨k0, rfl, r0⟩ := int_of g0
    obtain ⟨k1, rfl, r1⟩ := int_of g1
    obtain ⟨k2, rfl, r2⟩ := int_of g2
    obtain ⟨k3, rfl, r3⟩ := int_of g3
    obtain ⟨k4, rfl, r4⟩ := int_of g4
    obtain ⟨k5, rfl, r5⟩ := int_of g5
    exact ⟨⟨k0, k1, k2, k3, k4, k5⟩, rfl, r0, r1, r2, r3, r4, r5⟩

set_option maxRecDepth 100000 in
/-- steps -/
theorem steps_of {fuel : Nat} {a : Option Addr} {len cap : Nat} {x : DataW H × List MemPlace} (hv : Value.okWide Try.prog w .any base 37 (.slice a len cap)) (h : DataW.trod enc Try.prog w 0 (fun _ => true) held fuel 37 [.slice a len cap] = some x) : ∃ ss : List Stp, ss.length = len ∧ StepsAt w a ss := by
  rcases open_slice Try.underlying37 h with ⟨e, _⟩ | ⟨ad, len', cap', m, n, D, Pl, e, _, hl, _, hm, rfl, hx⟩
  · have e : a = none ∧ len = 0 ∧ cap = 0 := by simpa using e
    obtain ⟨rfl, rfl, rfl⟩ := e
    exact ⟨[], rfl, fun i o q => by simp at q⟩
  · have e : a = some ad ∧ len = len' ∧ cap = cap' := by simpa using e
    obtain ⟨rfl, rfl, rfl⟩ := e
    have hsp := spot_of Try.underlying37 hv
    simp only [if_true] at hm
    subst hm
    rw [cellsStep] at hx
    obtain ⟨b, off, sp⟩ := ad
    have hsp : sp = none := hsp
    subst hsp
    have each : ∀ i, i < len → ∃ o : Stp, (∀ j u, o.cells[j]? = some u → w.cell? ⟨b, off + i * 6 + j, none⟩ = some u) ∧ o.ok := fun i hi => by
      obtain ⟨cs, h1, h2⟩ := hx i (by omega)
      obtain ⟨o, ho, hr⟩ := step_of h2
      obtain ⟨_, hcl, hcell⟩ := World.cells?_some h1
      refine ⟨o, fun j u q => ?_, hr⟩
      have hj : j < 6 := by have := (List.getElem?_eq_some_iff.1 q).1; simpa [Stp.cells] using this
      have := hcell j hj
      rw [add_add, add_plain, ← Nat.add_assoc] at this
      rw [this, ho]
      simpa using q
    haveI : Inhabited Stp := ⟨⟨0, 0, 0, 0, 0, 0⟩⟩
    obtain ⟨f, hf⟩ := choose_lt each
    refine ⟨(List.range len).map f, by simp, fun i o q => ?_⟩
    have hi : i < len := by have := (List.getElem?_eq_some_iff.1 q).1; simpa using this
    have e : f i = o := by simpa [hi] using q
    subst e
    exact ⟨(hf i hi).2, b, off, rfl, (hf i hi).1⟩
end

end Go.Proofs.Ytcfoobhihhndjaa
