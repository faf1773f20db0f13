/- The law: Accounted; a script that is read out of memory. -/
import Derived.Test.YtcbfmolebomkdaaRows
import Derived.Test.YtcbfmolebomkdaaMc
import Derived.ProofKit
import Derived.OpenShut
import Derived.JoinedCond
import Derived.Deep.Slices
import Derived.Carry
namespace Go.Proofs.Ytcbfmolebomkdaa
open Go.ChangeShapes Go.WideShapes Go.ChangeAt Go.RowKit Go.Deep

theorem accounted_any (w : World) (a : Option Addr) (c : Nat) (ops : List OpV) (S : Script w a ops) :
    Calls Try.prog 3 #[.slice a ops.length c] w fun e w' => e = .returned (.bool true) ∧ Below w.heap.size w w' := by
  have HB := hide (plays_any w a c ops S)
  clear S
  go_enter Try.func3, Try.ntmps3
  go_wp2_with (go_at_call 4; refine HB.out.mono ?_; rintro e W ⟨rfl, hB⟩)
  go_ret
  exact ⟨rfl, hB⟩

/-! ### how much a reading holds -/

theorem bulk_pos {H : Type} (d : DataW H) : 1 ≤ Rows.uptoBulk d := by
  cases d with
  | lit l => cases l <;> simp [Rows.uptoBulk]
  | _ => simp [Rows.uptoBulk]

theorem bulk_mem {H : Type} {d : DataW H} : ∀ {l : List (DataW H)}, d ∈ l → Rows.uptoBulk d ≤ Rows.uptoBulkAll l
  | x :: r, h => by
    simp only [Rows.uptoBulkAll]
    rcases List.mem_cons.1 h with e | e
    · rw [e]; omega
    · have := bulk_mem e; omega

theorem bulk_len {H : Type} : ∀ l : List (DataW H), l.length ≤ Rows.uptoBulkAll l
  | [] => Nat.zero_le _
  | x :: r => by
    have h1 := bulk_len r
    have h2 := bulk_pos x
    simp only [Rows.uptoBulkAll, List.length_cons]
    omega

/-! ### a step, read -/

theorem cells42 : Try.prog.cellsOf 42 = 16 := by kernel_rfl
theorem cells40 : Try.prog.cellsOf 40 = 8 := by kernel_rfl
theorem cells38 : Try.prog.cellsOf 38 = 1 := by kernel_rfl
theorem cells3' : Try.prog.cellsOf 3 = 1 := by kernel_rfl

section
variable {H : Type} {enc : TypeId × Value → H} {w : World} {base : Nat} {held : Bool}

theorem int_of {spare : Nat → Bool} {n : Nat} {v : Value} {y : DataW H × List MemPlace} (h : DataW.trod enc Try.prog w base spare held n 3 [v] = some y) : ∃ k : Int, v = .int .i64 k ∧ -9223372036854775808 ≤ k ∧ k ≤ 9223372036854775807 := by
  obtain ⟨k, e, _, hw⟩ := DataW.trod_int Try.underlying3 h
  refine ⟨k, by simpa using e, ?_⟩
  simpa [Lit.wf, IntKind.min, IntKind.max, IntKind.signed, IntKind.bits] using hw

theorem rv_of {n : Nat} {v : Value} {y : DataW H × List MemPlace} (h : DataW.trod enc Try.prog w base (fun _ => true) held n 38 [v] = some y) (hb : Rows.uptoBulk y.1 ≤ 1048576) : RvOk w v := by
  rcases open_ints Try.underlying38 Try.underlying3 cells3' h with ⟨e, _⟩ | ⟨a, len, cap, zs, e, _, hl, _, hz, hy, hc, _⟩
  · exact .inl (by simpa using e)
  · have e : v = .slice (some a) len cap := by simpa using e
    simp only [if_true] at hz
    by_cases h0 : cap = 0
    · have hl0 : len = 0 := by omega
      subst h0 hl0
      exact .inr (.inl ⟨a, e⟩)
    · have hsp := World.cell?_spot (hc 0 (by omega))
      obtain ⟨b, off, sp⟩ := a
      have hsp : sp = none := by simpa [Addr.add] using hsp
      subst hsp
      have hlen : (zs.take len).length = len := by rw [List.length_take]; omega
      refine .inr (.inr ⟨b, off, cap, zs.take len, by rw [hlen]; exact e, fun i x q => ?_, ?_⟩)
      · have hi : i < len := by
          have := (List.getElem?_eq_some_iff.1 q).1
          omega
        have hx : zs[i]? = some x := by rw [List.getElem?_take] at q; simpa [hi] using q
        have := hc i (by omega)
        rw [add_plain] at this
        rw [this]
        simp [List.getD, hx]
      · rw [hlen]
        subst hy
        have h1 := bulk_len (lits (H := H) .i64 (zs.take len))
        simp only [Rows.uptoBulk] at hb
        simp only [lits, List.length_map] at h1
        rw [hlen] at h1
        simp only [lits] at hb
        omega

set_option maxRecDepth 100000 in
set_option maxHeartbeats 1000000 in
theorem order_of {spare : Nat → Bool} {n : Nat} {v0 v1 v2 v3 v4 v5 v6 v7 : Value} {x : DataW H × List MemPlace} (h : DataW.trod enc Try.prog w base spare held n 40 [v0, v1, v2, v3, v4, v5, v6, v7] = some x) :
    ∃ o0 o1 o2 o3 o4 o5 o6 o7 : Int, (v0 = .int .i64 o0 ∧ v1 = .int .i64 o1 ∧ v2 = .int .i64 o2 ∧ v3 = .int .i64 o3) ∧ v4 = .int .i64 o4 ∧ v5 = .int .i64 o5 ∧ v6 = .int .i64 o6 ∧ v7 = .int .i64 o7 := by
  obtain ⟨zs, m2, _, _, _, hzl, hz⟩ := DataW.trod_struct Try.underlying40 h
  have hn : ∀ i, i < 8 → ∃ y, zs[i]? = some y := fun i hi => ⟨zs[i]'(by rw [hzl]; exact hi), by simp⟩
  obtain ⟨z0, q0⟩ := hn 0 (by decide)
  obtain ⟨z1, q1⟩ := hn 1 (by decide)
  obtain ⟨z2, q2⟩ := hn 2 (by decide)
  obtain ⟨z3, q3⟩ := hn 3 (by decide)
  obtain ⟨z4, q4⟩ := hn 4 (by decide)
  obtain ⟨z5, q5⟩ := hn 5 (by decide)
  obtain ⟨z6, q6⟩ := hn 6 (by decide)
  obtain ⟨z7, q7⟩ := hn 7 (by decide)
  have t0 := hz 0 _ rfl
  rw [q0] at t0
  have t1 := hz 1 _ rfl
  rw [q1] at t1
  have t2 := hz 2 _ rfl
  rw [q2] at t2
  have t3 := hz 3 _ rfl
  rw [q3] at t3
  have t4 := hz 4 _ rfl
  rw [q4] at t4
  have t5 := hz 5 _ rfl
  rw [q5] at t5
  have t6 := hz 6 _ rfl
  rw [q6] at t6
  have t7 := hz 7 _ rfl
  rw [q7] at t7
  clear hn hz q0 q1 q2 q3 q4 q5 q6 q7 h
  obtain ⟨o0, e0, _⟩ := int_of t0
  obtain ⟨o1, e1, _⟩ := int_of t1
  obtain ⟨o2, e2, _⟩ := int_of t2
  obtain ⟨o3, e3, _⟩ := int_of t3
  obtain ⟨o4, e4, _⟩ := int_of t4
  obtain ⟨o5, e5, _⟩ := int_of t5
  obtain ⟨o6, e6, _⟩ := int_of t6
  obtain ⟨o7, e7, _⟩ := int_of t7
  exact ⟨o0, o1, o2, o3, o4, o5, o6, o7, ⟨e0, e1, e2, e3⟩, e4, e5, e6, e7⟩

set_option maxRecDepth 100000 in
set_option maxHeartbeats 1000000 in
theorem op_of {n : Nat} {cs : List Value} {x : DataW H × List MemPlace} (h : DataW.trod enc Try.prog w base (fun _ => true) held n 42 cs = some x) (hb : Rows.uptoBulk x.1 ≤ 1048576) :
    ∃ o : OpV, cs = o.cells.toList ∧ RvOk w o.rv ∧ -9223372036854775808 ≤ o.M ∧ o.M ≤ 9223372036854775807 := by
  obtain ⟨xs, m, rfl, rfl, hl, hxl, hf⟩ := DataW.trod_struct Try.underlying42 h
  rw [cells42] at hl
  match xs, hxl, cs, hl with
  | [y0, y1, y2, y3, y4, y5, y6, y7, y8], _, [v0, v1, v2, v3, v4, v5, v6, v7, v8, v9, v10, v11, v12, v13, v14, v15], _ =>
    have g0 := hf 0 _ rfl
    have g1 := hf 1 _ rfl
    have g2 := hf 2 _ rfl
    have g3 := hf 3 _ rfl
    have g4 := hf 4 _ rfl
    have g5 := hf 5 _ rfl
    have g6 := hf 6 _ rfl
    have g7 := hf 7 _ rfl
    have g8 := hf 8 _ rfl
    simp only [List.getElem?_cons_zero, List.getElem?_cons_succ] at g0 g1 g2 g3 g4 g5 g6 g7 g8
    obtain ⟨o0, o1, o2, o3, o4, o5, o6, o7, ⟨rfl, rfl, rfl, rfl⟩, rfl, rfl, rfl, rfl⟩ := order_of g8
    obtain ⟨k0, rfl, _⟩ := int_of g0
    obtain ⟨k1, rfl, hM⟩ := int_of g1
    obtain ⟨k2, rfl, _⟩ := int_of g2
    obtain ⟨k3, rfl, _⟩ := int_of g3
    obtain ⟨k4, rfl, _⟩ := int_of g4
    obtain ⟨k5, rfl, _⟩ := int_of g5
    obtain ⟨k6, rfl, _⟩ := int_of g6
    have hb7 : Rows.uptoBulk y7.1 ≤ 1048576 := by
      simp only [Rows.uptoBulk] at hb
      have := bulk_mem (d := y7.1) (l := [y0, y1, y2, y3, y4, y5, y6, y7, y8].map (·.1)) (by simp)
      omega
    exact ⟨⟨k0, k1, k2, k3, k4, k5, k6, v7, o0, o1, o2, o3, o4, o5, o6, o7⟩, rfl, rv_of g7 hb7, hM⟩

theorem script_of {fuel : Nat} {a : Option Addr} {len cap : Nat} {x : DataW H × List MemPlace} (h : DataW.trod enc Try.prog w base (fun _ => true) held fuel 22 [.slice a len cap] = some x) (hb : Rows.uptoBulk x.1 ≤ 1048576) : ∃ ops : List OpV, ops.length = len ∧ Script w a ops := by
  rcases open_slice Try.underlying22 h with ⟨e, _⟩ | ⟨ad, len', cap', m, n, D, Pl, e, _, hl, _, hm, rfl, hx⟩
  · have e : a = none ∧ len = 0 ∧ cap = 0 := by simpa using e
    obtain ⟨rfl, rfl, rfl⟩ := e
    exact ⟨[], rfl, by simp, fun i o q => by simp at q, fun o q => by simp at q, fun o q => by simp at q⟩
  · have e : a = some ad ∧ len = len' ∧ cap = cap' := by simpa using e
    obtain ⟨rfl, rfl, rfl⟩ := e
    simp only [if_true] at hm
    subst hm
    rw [cells42] at hx
    simp only [Rows.uptoBulk] at hb
    have hlen : len ≤ 1048576 := by
      have := bulk_len ((List.range len).map D)
      simp only [List.length_map, List.length_range] at this
      omega
    have each : ∀ i, i < len → ∃ o : OpV, (∀ j u, o.cells[j]? = some u → w.cell? (ad.add (i * 16 + j)) = some u) ∧ RvOk w o.rv ∧ -9223372036854775808 ≤ o.M ∧ o.M ≤ 9223372036854775807 := fun i hi => by
      obtain ⟨cs, h1, h2⟩ := hx i (by omega)
      have hbi : Rows.uptoBulk (D i) ≤ 1048576 := by
        have := bulk_mem (d := D i) (l := (List.range len).map D) (List.mem_map.2 ⟨i, List.mem_range.2 hi, rfl⟩)
        omega
      obtain ⟨o, ho, hr, hM⟩ := op_of h2 hbi
      obtain ⟨_, hcl, hcell⟩ := World.cells?_some h1
      refine ⟨o, fun j u q => ?_, hr, hM⟩
      have hj : j < 16 := by have := (Array.getElem?_eq_some_iff.1 q).1; simpa [OpV.cells] using this
      have := hcell j hj
      rw [add_add] at this
      rw [this, ho]
      simpa using q
    haveI : Inhabited OpV := ⟨⟨0, 0, 0, 0, 0, 0, 0, .slice none 0 0, 0, 0, 0, 0, 0, 0, 0, 0⟩⟩
    obtain ⟨f, hf⟩ := choose_lt each
    have mem : ∀ o, o ∈ (List.range len).map f → ∃ i, i < len ∧ f i = o := fun o q => by
      obtain ⟨i, hi, e⟩ := List.mem_map.1 q
      exact ⟨i, List.mem_range.1 hi, e⟩
    refine ⟨(List.range len).map f, by simp, by simpa using hlen, fun i o q => ?_, fun o q => ?_, fun o q => ?_⟩
    · have hi : i < len := by have := (List.getElem?_eq_some_iff.1 q).1; simpa using this
      have e : f i = o := by simpa [hi] using q
      subst e
      obtain ⟨hc, _, _⟩ := hf i hi
      have hsp := World.cell?_spot ((hf 0 (by omega)).1 0 _ rfl)
      obtain ⟨b, off, sp⟩ := ad
      have hsp : sp = none := by simpa [Addr.add] using hsp
      subst hsp
      refine ⟨b, off, rfl, fun j u q => ?_⟩
      have := hc j u q
      rw [add_plain] at this
      rw [Nat.add_assoc]
      exact this
    · obtain ⟨i, hi, rfl⟩ := mem o q
      exact (hf i hi).2.1
    · obtain ⟨i, hi, rfl⟩ := mem o q
      exact (hf i hi).2.2

end

end Go.Proofs.Ytcbfmolebomkdaa
