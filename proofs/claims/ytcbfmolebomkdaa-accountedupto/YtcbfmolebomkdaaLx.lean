/- The law: a step that makes a market, under the invariant. -/
import Derived.Test.YtcbfmolebomkdaaLv
import Derived.Test.YtcbfmolebomkdaaLe
namespace Go.Proofs.Ytcbfmolebomkdaa
open Go.RowKit

/-- the list of a step lies in memory -/
def RvOk (w : World) (v : Value) : Prop := v = .slice none 0 0 ∨ (∃ a : Addr, v = .slice (some a) 0 0) ∨ ∃ rb off rc, ∃ rs : List Int, v = .slice (some ⟨rb, off, none⟩) rs.length rc ∧ (∀ i x, rs[i]? = some x → w.cell? ⟨rb, off + i, none⟩ = some (.int .i64 x)) ∧ rs.length ≤ 1048576

theorem RvOk.form {w : World} {v : Value} (h : RvOk w v) : ∃ a n c, v = .slice a n c := by
  rcases h with h | ⟨a, h⟩ | ⟨rb, off, rc, rs, h, _⟩
  · exact ⟨_, _, _, h⟩
  · exact ⟨_, _, _, h⟩
  · exact ⟨_, _, _, h⟩

theorem step_on1_yes (w : World) (B0 p : Nat) (N : Int) (s : St) (o : OpV) (rb off rc : Nat) (rs : List Int) (hv : o.rv = .slice (some ⟨rb, off, none⟩) rs.length rc) (hc : ∀ i x, rs[i]? = some x → w.cell? ⟨rb, off + i, none⟩ = some (.int .i64 x)) (hl : rs.length ≤ 1048576) (hs : sizeOk o.A o.B rs = true) (h : Inv B0 p N s w) (bN0 : 0 ≤ N) (bN : N ≤ 900000000000) (hn2 : s.n ≤ 4000000) (hes : s.es.length ≤ 4000000) (hk : o.kd = 1) :
    Calls Try.prog 6 #[.pointer (some ⟨p, 0, none⟩), .agg o.cells] w fun e w' => e = .returned (.bool true) ∧ StepPost 1 1 w B0 p N s w' := by
  refine step_new w p _ o _ _ _ hv hk (hide fun W kW => ?_)
  have hW := h.later kW
  have hep : s.ev.ownBlock ≠ some p := fun q => hW.sep .e .p p (by simp) (mem_own q) (by simp [St.F])
  have hpp : s.psv.ownBlock ≠ some p := fun q => hW.sep .ps .p p (by simp) (mem_own q) (by simp [St.F])
  have hpe : ∀ b, s.psv.ownBlock = some b → s.ev.ownBlock ≠ some b := fun b q q' => hW.sep .ps .e b (by simp) (mem_own q) (mem_own q')
  have hcW : ∀ i x, rs[i]? = some x → W.cell? ⟨rb, off + i, none⟩ = some (.int .i64 x) := fun i x q => kW.cell (hc i x q) (by simp)
  have hs' := hs
  simp only [sizeOk, Bool.and_eq_true, decide_eq_true_eq] at hs'
  have e1 : ((o.A.toNat : Nat) : Int) = o.A := by omega
  have e2 : ((o.B.toNat : Nat) : Int) = o.B := by omega
  have hok : (newM o.A.toNat o.B.toNat rs.length).Ok N := ok_mono (newM_ok (by rw [e1, e2]; exact hs)) bN0 (by omega)
  refine (made_yes W p B0 s.ev s.psv s.es (pairCells s.L s.R s.n) s.n o rb off rc rs hv hcW hl hW.c5 hW.re hW.b0 hep hes hs hW.c0 hW.rps hpp hpe hn2).mono ?_
  rintro e w' ⟨rfl, P⟩
  refine ⟨rfl, ?_⟩
  obtain ⟨s', i1, i2, i3, i4, i5⟩ := hW.madeY hok P
  obtain ⟨L, R, psv', ev', nv, _, _, _, _, _, _, _, _, _, _, _, _, _, _, kk, _⟩ := P
  refine StepPost.intro h kW kk (fun b hb => ?_) i1 (by omega) bN (by omega) (by omega) (by rw [i3]; omega) (by omega) i5
  rcases List.mem_cons.1 hb with q | q
  · exact ⟨.p, by simp [St.F, q]⟩
  · rcases List.mem_append.1 q with q | q
    · exact ⟨.ps, by simpa [St.F] using q⟩
    · exact ⟨.e, by simpa [St.F] using q⟩


theorem step_on1 (w : World) (B0 p : Nat) (N : Int) (s : St) (o : OpV) (hrv : RvOk w o.rv) (h : Inv B0 p N s w) (bN0 : 0 ≤ N) (bN : N ≤ 900000000000) (hn2 : s.n ≤ 4000000) (hes : s.es.length ≤ 4000000) (hk : o.kd = 1) :
    Calls Try.prog 6 #[.pointer (some ⟨p, 0, none⟩), .agg o.cells] w fun e w' => e = .returned (.bool true) ∧ StepPost 0 1 w B0 p N s w' := by
  rcases hrv with hv | ⟨ad, hv⟩ | ⟨rb, off, rc, rs, hv, hc, hl⟩
  · refine step_new w p _ o _ _ _ hv hk (hide fun W kW => ?_)
    refine (made_nil W p o hv).mono ?_
    rintro e w' ⟨rfl, k⟩
    exact ⟨rfl, (StepPost.same h bN (kW.trans k)).wide (by omega) (by omega)⟩
  · refine step_new w p _ o _ _ _ hv hk (hide fun W kW => ?_)
    have hW := h.later kW
    have hep : s.ev.ownBlock ≠ some p := fun q => hW.sep .e .p p (by simp) (mem_own q) (by simp [St.F])
    refine (made_empty W p B0 s.ev s.es o ad hv hW.c5 hW.re hW.b0 hep hes).mono ?_
    rintro e w' ⟨rfl, P⟩
    refine ⟨rfl, ?_⟩
    obtain ⟨s', i1, i2, i3, i4, i5⟩ := hW.madeE P
    obtain ⟨ev', nv, q1, q2, q3, q4, kk, q6⟩ := P
    refine StepPost.intro h kW kk (fun b hb => ?_) i1 (by omega) bN (by omega) (by omega) (by rw [i3]; omega) (by omega) i5
    rcases List.mem_cons.1 hb with q | q
    · exact ⟨.p, by simp [St.F, q]⟩
    · exact ⟨.e, by simpa [St.F] using q⟩
  · cases hs : sizeOk o.A o.B rs with
    | false =>
      refine step_new w p _ o _ _ _ hv hk (hide fun W kW => ?_)
      have hW := h.later kW
      have hep : s.ev.ownBlock ≠ some p := fun q => hW.sep .e .p p (by simp) (mem_own q) (by simp [St.F])
      have hcW : ∀ i x, rs[i]? = some x → W.cell? ⟨rb, off + i, none⟩ = some (.int .i64 x) := fun i x q => kW.cell (hc i x q) (by simp)
      refine (made_no W p B0 s.ev s.es o rb off rc rs hv hcW hl hW.c5 hW.re hW.b0 hep hes hs).mono ?_
      rintro e w' ⟨rfl, P⟩
      refine ⟨rfl, ?_⟩
      obtain ⟨s', i1, i2, i3, i4, i5⟩ := hW.madeE P
      obtain ⟨ev', nv, q1, q2, q3, q4, kk, q6⟩ := P
      refine StepPost.intro h kW kk (fun b hb => ?_) i1 (by omega) bN (by omega) (by omega) (by rw [i3]; omega) (by omega) i5
      rcases List.mem_cons.1 hb with q | q
      · exact ⟨.p, by simp [St.F, q]⟩
      · exact ⟨.e, by simpa [St.F] using q⟩
    | true =>
      refine (step_on1_yes w B0 p N s o rb off rc rs hv hc hl hs h bN0 bN hn2 hes hk).mono ?_
      rintro e w' ⟨rfl, P⟩
      exact ⟨rfl, P.wide (by omega) (by omega)⟩

end Go.Proofs.Ytcbfmolebomkdaa
