/- The law: plays. -/
import Derived.Test.YtcbfmolebomkdaaMb
namespace Go.Proofs.Ytcbfmolebomkdaa
open Go.RowKit

/-- a script, as it lies in memory -/
structure Script (w : World) (a : Option Addr) (ops : List OpV) : Prop where
  len : ops.length ≤ 1048576
  cell : ∀ i o, ops[i]? = some o → ∃ b off, a = some ⟨b, off, none⟩ ∧ ∀ j u, o.cells[j]? = some u → w.cell? ⟨b, off + i * 16 + j, none⟩ = some u
  rv : ∀ o, o ∈ ops → RvOk w o.rv
  M : ∀ o, o ∈ ops → -9223372036854775808 ≤ o.M ∧ o.M ≤ 9223372036854775807

theorem below_cell {w w' : World} (h : Below w.heap.size w w') {p : Addr} {v : Value} (hc : w.cell? p = some v) : w'.cell? p = some v :=
  (Keeps.of_below (S := []) h).cell hc (by simp)

theorem RvOk.below {w w' : World} {v : Value} (h : RvOk w v) (k : Below w.heap.size w w') : RvOk w' v := by
  rcases h with h | h | ⟨rb, off, rc, rs, h1, h2, h3⟩
  · exact .inl h
  · exact .inr (.inl h)
  · exact .inr (.inr ⟨rb, off, rc, rs, h1, fun i x q => below_cell k (h2 i x q), h3⟩)

theorem Script.below {w w' : World} {a : Option Addr} {ops : List OpV} (h : Script w a ops) (k : Below w.heap.size w w') : Script w' a ops :=
  ⟨h.len, fun i o q => by
    obtain ⟨b, off, h1, h2⟩ := h.cell i o q
    exact ⟨b, off, h1, fun j u q => below_cell k (h2 j u q)⟩, fun o q => (h.rv o q).below k, h.M⟩

theorem SSt.script {w wr : World} {p k : Nat} {a : Option Addr} {ops : List OpV} (h : SSt w w.heap.size p k wr) (S : Script w a ops) : Script wr a ops := by
  obtain ⟨s, h1, h2, h3, h4, h5, h6⟩ := h
  exact S.below h6

theorem headOp_form (rb k : Nat) : ∃ a n c, (headOp rb k).rv = .slice a n c := by
  by_cases e : k = 0
  · subst e; exact ⟨_, _, _, rfl⟩
  · exact ⟨_, _, _, (headOp_other rb k e).1⟩

set_option maxRecDepth 100000 in
set_option maxHeartbeats 4000000 in
theorem plays_any (w : World) (a : Option Addr) (c : Nat) (ops : List OpV) (S : Script w a ops) :
    Calls Try.prog 4 #[.slice a ops.length c, .int .i64 8] w fun e w' => e = .returned (.bool true) ∧ Below w.heap.size w w' := by
  have bl := S.len
  have HSc := hide S
  clear S
  go_enter Try.func4, Try.ntmps4
  go_wp2_with (go_at_call 5; refine (head_any _).mono ?_; rintro e W ⟨hb, rb, rfl, h1, h2, kW, ch, cr⟩)
  have H0 : Hid (HSt w w.heap.size w.heap.size hb rb 0 W) := hide (HSt.start kW h1 h2 ch cr)
  clear h1 h2 kW ch cr
  go_loopw [7, 8] (fun ok i wr => ∃ k : Nat, k ≤ 7 ∧ i = .int .i64 k ∧ ok = .bool true ∧ HSt w w.heap.size w.heap.size hb rb k wr) (fun _ i _ => 7 - (intOf i).toNat)
  case atStart => exact ⟨0, by omega, rfl, rfl, H0.out⟩
  case round =>
    clear H0
    obtain ⟨k, hk, rfl, rfl, hst⟩ := hrel
    by_cases hlt : k < 7
    · have hlt' : (k : Int) < 7 := by omega
      have hc := hst.cell hlt
      have HB := hide (hst.step hlt)
      obtain ⟨ra, rn, rc, hf⟩ := headOp_form rb k
      clear hst
      generalize headOp rb k = o at hc HB hf
      obtain ⟨kd, M, A, B, C, D, E, rv, o0, o1, o2, o3, o4, o5, o6, o7⟩ := o
      simp only [] at hf
      subst hf
      have q0 : wr.cell? ⟨hb, k * 16, none⟩ = some (.int .i64 kd) := hc 0 _ rfl
      have q1 : wr.cell? ⟨hb, k * 16 + 1, none⟩ = some (.int .i64 M) := hc 1 _ rfl
      have q2 : wr.cell? ⟨hb, k * 16 + 2, none⟩ = some (.int .i64 A) := hc 2 _ rfl
      have q3 : wr.cell? ⟨hb, k * 16 + 3, none⟩ = some (.int .i64 B) := hc 3 _ rfl
      have q4 : wr.cell? ⟨hb, k * 16 + 4, none⟩ = some (.int .i64 C) := hc 4 _ rfl
      have q5 : wr.cell? ⟨hb, k * 16 + 5, none⟩ = some (.int .i64 D) := hc 5 _ rfl
      have q6 : wr.cell? ⟨hb, k * 16 + 6, none⟩ = some (.int .i64 E) := hc 6 _ rfl
      have q7 : wr.cell? ⟨hb, k * 16 + 7, none⟩ = some (.slice ra rn rc) := hc 7 _ rfl
      have q8 : wr.cell? ⟨hb, k * 16 + 8, none⟩ = some (.int .i64 o0) := hc 8 _ rfl
      have q9 : wr.cell? ⟨hb, k * 16 + 9, none⟩ = some (.int .i64 o1) := hc 9 _ rfl
      have q10 : wr.cell? ⟨hb, k * 16 + 10, none⟩ = some (.int .i64 o2) := hc 10 _ rfl
      have q11 : wr.cell? ⟨hb, k * 16 + 11, none⟩ = some (.int .i64 o3) := hc 11 _ rfl
      have q12 : wr.cell? ⟨hb, k * 16 + 12, none⟩ = some (.int .i64 o4) := hc 12 _ rfl
      have q13 : wr.cell? ⟨hb, k * 16 + 13, none⟩ = some (.int .i64 o5) := hc 13 _ rfl
      have q14 : wr.cell? ⟨hb, k * 16 + 14, none⟩ = some (.int .i64 o6) := hc 14 _ rfl
      have q15 : wr.cell? ⟨hb, k * 16 + 15, none⟩ = some (.int .i64 o7) := hc 15 _ rfl
      clear hc
      simp only [OpV.cells] at HB
      go_wp2_with ((go_at_call 6; refine HB.out.mono ?_; rintro e W2 ⟨rfl, hst⟩))
      exact ⟨⟨k + 1, by omega, by go_num, rfl, hst⟩, by simp [intOf]; omega⟩
    · have h7 : HSt w w.heap.size w.heap.size hb rb 7 wr := by
        have e : k = 7 := by omega
        rw [e] at hst
        exact hst
      obtain ⟨H1, pa, pc, c0⟩ := h7.done
      have HS := hide H1
      have hnk : ¬ (k : Int) < 7 := by omega
      clear H1 hst h7
      go_wp2
      go_loopw [7, 9] (fun ok i wr => ∃ k : Nat, k ≤ ops.length ∧ i = .int .i64 k ∧ ok = .bool true ∧ SSt w w.heap.size w.heap.size k wr) (fun _ i _ => ops.length - (intOf i).toNat)
      case atStart => exact ⟨0, by omega, rfl, rfl, HS.out⟩
      case round =>
        clear HS c0
        obtain ⟨k, hk, rfl, rfl, hst⟩ := hrel
        by_cases hlt : k < ops.length
        · have hlt' : (k : Int) < (ops.length : Int) := by omega
          have Sc := hst.script HSc.out
          have ho : ops[k]? = some ops[k] := by simp
          have hmem : ops[k] ∈ ops := List.getElem_mem hlt
          obtain ⟨b, off, ha, hc⟩ := Sc.cell k _ ho
          have HV := hide (Sc.rv _ hmem)
          have HM := hide (Sc.M _ hmem)
          obtain ⟨ra, rn, rc, hf⟩ := HV.out.form
          have HT := hide hst
          clear hst Sc ho hmem
          generalize ops[k] = o at hc HV HM hf
          have HB : Hid (o.kd ≤ 8 → Calls Try.prog 6 #[.pointer (some ⟨w.heap.size, 0, none⟩), .agg o.cells] wr fun e w' => e = .returned (.bool true) ∧ SSt w w.heap.size w.heap.size (k + 1) w') := hide fun h8 => HT.out.step (by omega) o HV.out HM.out h8
          clear HV HM
          obtain ⟨kd, M, A, B, C, D, E, rv, o0, o1, o2, o3, o4, o5, o6, o7⟩ := o
          simp only [] at hf HB
          subst hf
          subst ha
          have q0 : wr.cell? ⟨b, off + k * 16, none⟩ = some (.int .i64 kd) := hc 0 _ rfl
          have q1 : wr.cell? ⟨b, off + k * 16 + 1, none⟩ = some (.int .i64 M) := hc 1 _ rfl
          have q2 : wr.cell? ⟨b, off + k * 16 + 2, none⟩ = some (.int .i64 A) := hc 2 _ rfl
          have q3 : wr.cell? ⟨b, off + k * 16 + 3, none⟩ = some (.int .i64 B) := hc 3 _ rfl
          have q4 : wr.cell? ⟨b, off + k * 16 + 4, none⟩ = some (.int .i64 C) := hc 4 _ rfl
          have q5 : wr.cell? ⟨b, off + k * 16 + 5, none⟩ = some (.int .i64 D) := hc 5 _ rfl
          have q6 : wr.cell? ⟨b, off + k * 16 + 6, none⟩ = some (.int .i64 E) := hc 6 _ rfl
          have q7 : wr.cell? ⟨b, off + k * 16 + 7, none⟩ = some (.slice ra rn rc) := hc 7 _ rfl
          have q8 : wr.cell? ⟨b, off + k * 16 + 8, none⟩ = some (.int .i64 o0) := hc 8 _ rfl
          have q9 : wr.cell? ⟨b, off + k * 16 + 9, none⟩ = some (.int .i64 o1) := hc 9 _ rfl
          have q10 : wr.cell? ⟨b, off + k * 16 + 10, none⟩ = some (.int .i64 o2) := hc 10 _ rfl
          have q11 : wr.cell? ⟨b, off + k * 16 + 11, none⟩ = some (.int .i64 o3) := hc 11 _ rfl
          have q12 : wr.cell? ⟨b, off + k * 16 + 12, none⟩ = some (.int .i64 o4) := hc 12 _ rfl
          have q13 : wr.cell? ⟨b, off + k * 16 + 13, none⟩ = some (.int .i64 o5) := hc 13 _ rfl
          have q14 : wr.cell? ⟨b, off + k * 16 + 14, none⟩ = some (.int .i64 o6) := hc 14 _ rfl
          have q15 : wr.cell? ⟨b, off + k * 16 + 15, none⟩ = some (.int .i64 o7) := hc 15 _ rfl
          clear hc
          simp only [OpV.cells] at HB
          by_cases h8 : kd ≤ 8
          · have HB' := hide (HB.out h8)
            clear HB HT
            go_wp2_with (first | (go_at_call 6; refine HB'.out.mono ?_; rintro e W2 ⟨rfl, hst⟩; have HW := hide (hst.whole (by omega)); have HT := hide hst; clear hst) | (go_at_call 7; refine HW.out.mono ?_; rintro e W3 ⟨rfl, hw3⟩; subst hw3))
            exact ⟨⟨k + 1, by omega, by go_num, rfl, HT.out⟩, by simp [intOf]; omega⟩
          · have h8' : 8 < kd := by omega
            clear HB
            go_wp2
            exact ⟨⟨k + 1, by omega, by go_num, rfl, HT.out.skip (by omega)⟩, by simp [intOf]; omega⟩
        · have HT : Hid (SSt w w.heap.size w.heap.size ops.length wr) := by
            have e : k = ops.length := by omega
            rw [e] at hst
            exact hst
          have hnk2 : ¬ (k : Int) < (ops.length : Int) := by omega
          clear hst
          go_wp2
          go_loopw [7, 11] (fun ok i wr => ∃ j : Nat, j ≤ 4 ∧ i = .int .i64 j ∧ ok = .bool true ∧ SSt w w.heap.size w.heap.size (ops.length + j) wr) (fun _ i _ => 4 - (intOf i).toNat)
          case atStart => exact ⟨0, by omega, rfl, rfl, HT.out⟩
          case round =>
            clear HT
            obtain ⟨j, hj, rfl, rfl, hst⟩ := hrel
            by_cases hlt4 : j < 4
            · have hlt4' : (j : Int) < 4 := by omega
              obtain ⟨pb, pn, pc, lx, rx, c0, hpn, x0, x1, HA⟩ := hst.acc (by omega)
              have hpn' : (0 : Int) < (pn : Int) := by omega
              clear hst
              go_wp2_with ((go_at_call 8; refine (HA.out j).mono ?_; rintro e W2 ⟨rfl, hst⟩))
              exact ⟨⟨j + 1, by omega, by go_num, rfl, hst⟩, by simp [intOf]; omega⟩
            · obtain ⟨s, _, _, _, _, _, hB⟩ := hst
              go_wp2
              go_ret
              exact ⟨rfl, hB⟩

end Go.Proofs.Ytcbfmolebomkdaa
