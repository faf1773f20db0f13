/- The law: made, where it gives a market. -/
import Derived.Test.YtcbfmolebomkdaaLn
namespace Go.Proofs.Ytcbfmolebomkdaa
open Go.RowKit

theorem info48 : (Try.prog.info? 48).map (fun i => (i.zero, i.size, i.bytes)) = some (some (.agg #[.pointer none, .pointer none]), 2, 16) := by kernel_rfl

theorem newM_ok {A B : Nat} {rs : List Int} (h : sizeOk A B rs = true) : (newM A B rs.length).Ok 0 := by
  simp only [sizeOk, Bool.and_eq_true, decide_eq_true_eq] at h
  exact ⟨by decide, by simp only [newM]; omega, by simp only [newM]; omega, by simp only [newM]; omega, by simp only [newM]; omega, by simp only [newM]; omega, by simp only [newM]; omega, fun _ _ => by simp [newM], fun _ _ _ _ _ _ => by simp [newM], by simp [newM], fun l hl => by simp [newM] at hl, by simp [newM]⟩

/-- what a step that makes a market leaves -/
def MadeY (w : World) (p B0 : Nat) (ev psv : Value) (es pcs : List Value) (n T G H : Nat) (w' : World) : Prop :=
  ∃ (L : PL) (R : RL) (psv' ev' nv : Value), PRep w' L (newM T G H) ∧ RefRep w' R (newM T G H) ∧ (∀ b, b ∈ L.fp → w.heap.size ≤ b) ∧ (∀ b, b ∈ R.fp → w.heap.size ≤ b) ∧ (∀ b, b ∈ L.fp → b ∉ R.fp) ∧
    (∀ b, psv'.ownBlock = some b → b ∉ L.fp ∧ b ∉ R.fp ∧ ev'.ownBlock ≠ some b) ∧ (∀ b, ev'.ownBlock = some b → b ∉ L.fp ∧ b ∉ R.fp) ∧
    Own w' ⟨p, 0, none⟩ psv' ∧ w'.ownsRow B0 48 2 psv' (n + 1) (pcs ++ [.pointer (some ⟨L.x, 0, none⟩), .pointer (some ⟨R.c, 0, none⟩)]) ∧ (psv'.ownBlock = psv.ownBlock ∨ ∃ b, psv'.ownBlock = some b ∧ w.heap.size ≤ b) ∧
    Own w' ⟨p, 5, none⟩ ev' ∧ w'.ownsRow B0 112 1 ev' (es.length + 1) (es ++ [nv]) ∧ (ev'.ownBlock = ev.ownBlock ∨ ∃ b, ev'.ownBlock = some b ∧ w.heap.size ≤ b) ∧
    (∀ j v, j ≠ 0 → j ≠ 5 → Own w ⟨p, j, none⟩ v → Own w' ⟨p, j, none⟩ v) ∧ Keeps (p :: (psv.ownBlock.toList ++ ev.ownBlock.toList)) w w' ∧
    ∀ D : Nat → Prop, (∀ b, w.heap.size ≤ b ∧ ev'.ownBlock ≠ some b ∧ psv'.ownBlock ≠ some b ∧ b ∉ L.fp ∧ b ∉ R.fp → D b) → Marked D w' nv [.int .i64 (-7070 - (es.length : Int))] 1

set_option maxRecDepth 100000 in
set_option maxHeartbeats 1000000 in
theorem made_yes (w : World) (p B0 : Nat) (ev psv : Value) (es pcs : List Value) (n : Nat) (o : OpV) (rb off rc : Nat) (rs : List Int) (hrv : o.rv = .slice (some ⟨rb, off, none⟩) rs.length rc) (hc : ∀ i x, rs[i]? = some x → w.cell? ⟨rb, off + i, none⟩ = some (.int .i64 x)) (hn : rs.length ≤ 1048576)
    (hc5 : Own w ⟨p, 5, none⟩ ev) (hev : w.ownsRow B0 112 1 ev es.length es) (hb0 : B0 ≤ w.heap.size) (hep : ev.ownBlock ≠ some p) (hne : es.length ≤ 4000000) (hyes : sizeOk o.A o.B rs = true)
    (hc0 : Own w ⟨p, 0, none⟩ psv) (hps : w.ownsRow B0 48 2 psv n pcs) (hpp : psv.ownBlock ≠ some p) (hpe : ∀ b, psv.ownBlock = some b → ev.ownBlock ≠ some b) (hnn : n ≤ 4000000) :
    Calls Try.prog 9 #[.pointer (some ⟨p, 0, none⟩), .agg o.cells] w fun e w' => e = .returned (.bool true) ∧ MadeY w p B0 ev psv es pcs n o.A.toNat o.B.toNat rs.length w' := by
  obtain ⟨pa, pc, hpv⟩ : ∃ a c, psv = .slice a n c := by
    rcases hps.2 with ⟨h1, h2⟩ | ⟨_, _, _, h1, _⟩
    · exact ⟨none, 0, by rw [h1, h2]⟩
    · exact ⟨_, _, h1⟩
  subst hpv
  obtain ⟨kd, M, A, B, C, D, E, rv, o0, o1, o2, o3, o4, o5, o6, o7⟩ := o
  simp only [] at hrv hyes ⊢
  have hab : 0 ≤ A ∧ 0 ≤ B := by
    have h := hyes
    simp only [sizeOk, Bool.and_eq_true, decide_eq_true_eq] at h
    omega
  obtain ⟨A, rfl⟩ := Int.eq_ofNat_of_zero_le hab.1
  obtain ⟨B, rfl⟩ := Int.eq_ofNat_of_zero_le hab.2
  simp only [Int.toNat_natCast]
  clear hab
  subst hrv
  have HC := hide hc
  have H5 := hide hc5
  have HE := hide hev
  have H0 := hide hc0
  have HPS := hide hps
  have hpsw : ∀ b, (Value.slice pa n pc).ownBlock = some b → b < w.heap.size := fun b hb => (hps.lt b hb).2
  have hpw : p < w.heap.size := hc5.lt
  have hew : ∀ b, ev.ownBlock = some b → b < w.heap.size := fun b hb => (hev.lt b hb).2
  clear hc hc5 hev hc0 hps
  simp only [OpV.cells]
  go_enter Try.func9, Try.ntmps9
  go_wp2_with fail
  have kb : Keeps [] w (w.alloc (.cells #[.int .i64 kd, .int .i64 M, .int .i64 A, .int .i64 B, .int .i64 C, .int .i64 D, .int .i64 E, .slice (some ⟨rb, off, none⟩) rs.length rc, .int .i64 o0, .int .i64 o1, .int .i64 o2, .int .i64 o3, .int .i64 o4, .int .i64 o5, .int .i64 o6, .int .i64 o7] 42)) := (Keeps.refl _ _).alloc _
  have hb := heap_alloc_new w (.cells #[.int .i64 kd, .int .i64 M, .int .i64 A, .int .i64 B, .int .i64 C, .int .i64 D, .int .i64 E, .slice (some ⟨rb, off, none⟩) rs.length rc, .int .i64 o0, .int .i64 o1, .int .i64 o2, .int .i64 o3, .int .i64 o4, .int .i64 o5, .int .i64 o6, .int .i64 o7] 42)
  refine (lent_some _ rb off rc rs (fun i x hx => kb.cell (HC.out i x hx) (by simp)) (by omega)).mono ?_
  rintro e w1 ⟨gb, cap, rfl, k1, r1⟩
  have bl : w1.heap[w.heap.size]? = _ := (k1.block w.heap.size (by simp) (by simp)).trans hb
  have p2 : w1.cell? ⟨w.heap.size, 2, none⟩ = some (.int .i64 A) := cell_of_row _ _ 2 _ _ _ bl
  have p3 : w1.cell? ⟨w.heap.size, 3, none⟩ = some (.int .i64 B) := cell_of_row _ _ 3 _ _ _ bl
  have p7 : w1.cell? ⟨w.heap.size, 7, none⟩ = some (.slice (some ⟨rb, off, none⟩) rs.length rc) := cell_of_row _ _ 7 _ _ _ bl
  clear hb bl
  have kk : Keeps [] w w1 := kb.trans k1
  have s1 := k1.size
  have hgb := r1.lt gb rfl
  simp only [World.size_alloc] at s1 hgb
  have HR1 := hide r1
  have ig : IntsAt w1 (.slice (some ⟨gb, 0, none⟩) rs.length cap) rs := .inr ⟨gb, 0, cap, rfl, fun i x hx => by
    have hi : i < rs.length := (List.getElem?_eq_some_iff.1 hx).1
    rw [Nat.zero_add, r1.cellAt i (by omega), List.getElem?_map, List.getElem?_append_left hi, hx]
    rfl⟩
  have il : IntsAt w1 (.slice (some ⟨rb, off, none⟩) rs.length rc) rs := .inr ⟨rb, off, rc, rfl, fun i x hx => kk.cell (HC.out i x hx) (by simp)⟩
  have HIG := hide ig
  have HIL := hide il
  clear r1 k1 ig il kb
  go_wp2_with fail
  refine (progNew_yes _ A B _ rs HIG.out hyes).mono ?_
  rintro e w2 ⟨L, rfl, hp2, k2, hL⟩
  have p2' := k2.cell p2 (by simp)
  have p3' := k2.cell p3 (by simp)
  have p7' := k2.cell p7 (by simp)
  have s2 := k2.size
  have HP2 := hide hp2
  clear hp2
  go_wp2_with fail
  refine (refNew_yes _ A B _ rs (HIL.out.keep k2 (by simp)) hyes).mono ?_
  rintro e w3 ⟨R, rfl, hr3, k3, hR⟩
  have p7'' := k3.cell p7' (by simp)
  have s3 := k3.size
  have HR3 := hide hr3
  have k13 := k2.trans k3
  have k03 := kk.trans k13
  have ltL : ∀ b, b ∈ L.fp → b < w2.heap.size := HP2.out.lt (show 1 ≤ A by have h := hyes; simp only [sizeOk, Bool.and_eq_true, decide_eq_true_eq] at h; omega)
  clear hr3
  go_wp2_with fail
  refine (returned_some w3 p B0 _ ev es rb off rc gb cap rs (fun i x hx => k03.cell (HC.out i x hx) (by simp)) (by omega) (ownsRow_keep HR1.out k13 (by simp)) (H5.out.keep k03 (by simp)) (ownsRow_keep HE.out k03 (by simp)) (by omega) (by omega) (fun h => by have := hew gb h; omega) hep hne).mono ?_
  rintro e w4 ⟨rfl, hp4⟩
  have HP4 := hide hp4
  obtain ⟨ev', nv, q1, q2, q3, q4, q5, q6⟩ := hp4
  have oo := q4 0 _ (by decide) (H0.out.keep k03 (by simp))
  have hkeep : ∀ b, b ≠ p → b ≠ gb → ev.ownBlock ≠ some b → b ∉ p :: ((Value.slice (some ⟨gb, 0, none⟩) rs.length cap).ownBlock.toList ++ ev.ownBlock.toList) := fun b h1 h2 h3 h => by
    simp only [List.mem_cons, List.mem_append, Value.ownBlock, Option.toList_some, List.not_mem_nil, or_false, Option.mem_toList] at h
    rcases h with h | h | h
    · exact h1 h
    · exact h2 h
    · exact h3 h
  have rps := ownsRow_keep (ownsRow_keep HPS.out k03 (by simp)) q5 (fun b hb => hkeep b (fun e => hpp (by rw [hb, e])) (fun e => by have := hpsw b hb; omega) (hpe b hb))
  have PW := HP2.out.keep k3 (by simp) |>.keep q5 (fun b hb => hkeep b (fun e => by have := hL b hb; omega) (fun e => by have := hL b hb; omega) (fun e => by have := hL b hb; have := hew b e; omega))
  have RW := HR3.out.keep q5 (fun b hb => hkeep b (fun e => by have := hR b hb; omega) (fun e => by have := hR b hb; omega) (fun e => by have := hR b hb; have := hew b e; omega))
  have s4 := q5.size
  have HO := hide oo
  have HPW := hide PW
  have HRW := hide RW
  have HRP := hide rps
  have c0 := oo.cell
  obtain ⟨i0, hi0, hz0, hz1, hz2⟩ := info_parts info48
  have pw4 : p < w4.heap.size := oo.lt
  have HQ1 := hide q1; have HQ2 := hide q2; have HQ3 := hide q3; have HQ4 := hide q4; have HQ5 := hide q5; have HQ6 := hide q6
  have HL := hide hL; have HRR := hide hR; have HLL := hide ltL
  clear oo PW RW rps q1 q2 q3 q4 q5 q6 p2 p3 p7 p2' p3' p7' p7'' hL hR ltL hkeep
  go_wp2_with (at_builtin; (refine wpList_append_lies _ rfl _ _ _ rfl B0 48 i0 _ 2 16 Try.underlying26 hi0 hz0 hz1 hz2 rfl (by omega) _ n pcs rfl (by exact HRP.out.alloc _) ⟨w4.heap.size, 0, none⟩ 1 1 [_, _] rfl rfl (by exact cell_two_new _ _ _ _) (by simp [Value.oneCell']) (by omega) (by simp only [maxLen]; omega) (by omega) (by simp; omega) (w4.heap.size + 1) (by simp) ?_))
  intro gg gcap w5 hown5 hgrow hat hlt5
  have k5 : Keeps (Value.slice pa n pc).ownBlock.toList w4 w5 := ((Keeps.refl _ _).alloc _).grown hgrow (fun b hb => .inl (by simp [hb]))
  have o5' := HO.out.keep k5 (by simpa using hpp)
  obtain ⟨z6, z7⟩ := o5'
  go_wp2
  go_ret
  have nop : (Value.slice (some ⟨gg, 0, none⟩) (n + 1) gcap).ownBlock ≠ some p := fun h => by
    have hgp : gg = p := by simpa [Value.ownBlock] using h
    rcases hat with h' | h'
    · exact hpp (by rw [h', hgp])
    · omega
  have kf : Keeps (p :: (Value.slice pa n pc).ownBlock.toList) w4 (w5.setCell ⟨p, 0, none⟩ (.slice (some ⟨gg, 0, none⟩) (n + 1) gcap)) := (k5.mono (fun i hi => .inl (List.mem_cons_of_mem _ hi))).setCell (p := ⟨p, 0, none⟩) (.inl List.mem_cons_self) _
  have nk : ∀ b, b ≠ p → (Value.slice pa n pc).ownBlock ≠ some b → b ∉ p :: (Value.slice pa n pc).ownBlock.toList := fun b h1 h2 h => by
    simp only [List.mem_cons, Option.mem_toList] at h
    rcases h with h | h
    · exact h1 h
    · exact h2 h
  have okn := newM_ok hyes
  have ltR : ∀ b, b ∈ R.fp → b < w3.heap.size := HR3.out.lt okn
  have evc : ∀ b, ev'.ownBlock = some b → b < w.heap.size ∧ ev.ownBlock = some b ∨ w3.heap.size ≤ b ∧ b < w4.heap.size := fun b hb => by
    rcases HQ3.out with h | ⟨b', h, hs⟩
    · rw [h] at hb
      exact .inl ⟨hew b hb, hb⟩
    · have e : b' = b := by rw [hb] at h; simpa using h.symm
      exact .inr ⟨by omega, (HQ2.out.lt b hb).2⟩
  have ggc : (Value.slice pa n pc).ownBlock = some gg ∧ gg < w.heap.size ∨ gg = w4.heap.size + 1 := hat.imp (fun h => ⟨h, hpsw gg h⟩) id
  have L1 := fun b (hb : b ∈ L.fp) => HL.out b hb
  have L2 := fun b (hb : b ∈ L.fp) => HLL.out b hb
  have R1 := fun b (hb : b ∈ R.fp) => HRR.out b hb
  refine ⟨rfl, L, R, .slice (some ⟨gg, 0, none⟩) (n + 1) gcap, ev', nv, HPW.out.keep kf (fun b hb => nk b ?_ ?_), HRW.out.keep kf (fun b hb => nk b ?_ ?_), fun b hb => ?_, fun b hb => ?_, fun b hb hb' => ?_, fun b hb => ?_, fun b hb => ?_,
    (HO.out.keep k5 (by simpa using hpp)).set rfl _, ownsRow_setCell_other hown5 nop _, ?_, (HQ1.out.keep k5 (by simpa using hpp)).set_other (by intro q; injection q with _ q _; omega) rfl rfl _, ?_, ?_, fun j v h0 h5 hv => ?_, ?_, fun D hD => ?_⟩
  · have := L1 b hb; omega
  · intro h; have := L1 b hb; have := hpsw b h; omega
  · have := R1 b hb; omega
  · intro h; have := R1 b hb; have := hpsw b h; omega
  · have := L1 b hb; omega
  · have := R1 b hb; omega
  · have := L2 b hb; have := R1 b hb'; omega
  · have e : gg = b := by simpa [Value.ownBlock] using hb
    subst e
    refine ⟨fun h => ?_, fun h => ?_, fun h => ?_⟩
    · have := L1 gg h; have := L2 gg h; omega
    · have := R1 gg h; have := ltR gg h; omega
    · rcases ggc with ⟨g1, g2⟩ | g1
      · rcases evc gg h with ⟨_, e2⟩ | ⟨e1, _⟩
        · exact hpe gg g1 e2
        · omega
      · rcases evc gg h with ⟨e1, _⟩ | ⟨_, e2⟩ <;> omega
  · refine ⟨fun h => ?_, fun h => ?_⟩
    · have := L1 b h; have := L2 b h
      rcases evc b hb with ⟨e1, _⟩ | ⟨e1, _⟩ <;> omega
    · have := R1 b h; have := ltR b h
      rcases evc b hb with ⟨e1, _⟩ | ⟨e1, _⟩ <;> omega
  · rcases ggc with ⟨g1, _⟩ | g1
    · exact .inl g1.symm
    · exact .inr ⟨gg, rfl, by omega⟩
  · refine ownsRow_setCell_other (ownsRow_keep HQ2.out k5 (fun b hb hb' => ?_)) (fun h => ?_) _
    · have hb2 : (Value.slice pa n pc).ownBlock = some b := by simpa using hb'
      rcases evc b hb with ⟨_, e2⟩ | ⟨e1, _⟩
      · exact hpe b hb2 e2
      · have := hpsw b hb2; omega
    · rcases evc p h with ⟨_, e2⟩ | ⟨e1, _⟩
      · exact hep e2
      · omega
  · rcases HQ3.out with h | ⟨b', h, hs⟩
    · exact .inl h
    · exact .inr ⟨b', h, by omega⟩
  · refine ((HQ4.out j v h5 (hv.keep k03 (by simp))).keep k5 (by simpa using hpp)).set_other ?_ rfl rfl _
    intro q
    injection q with _ q _
    exact h0 q
  · refine ((k03.mono (by simp)).trans' HQ5.out (fun i hi => ?_)).trans' kf (fun i hi => .inl ?_)
    · simp only [List.mem_cons, List.mem_append, Value.ownBlock, Option.toList_some, List.not_mem_nil, or_false, Option.mem_toList] at hi ⊢
      rcases hi with hi | hi | hi
      · exact .inl (.inl hi)
      · exact .inr (by omega)
      · exact .inl (.inr (.inr hi))
    · simp only [List.mem_cons, List.mem_append] at hi ⊢
      rcases hi with hi | hi
      · exact .inl hi
      · exact .inr (.inl hi)
  · refine (HQ6.out (fun b => gb = b ∨ (w3.heap.size ≤ b ∧ ev'.ownBlock ≠ some b)) (fun b hb => hb.imp (fun h => by simpa [Value.ownBlock] using h) id)).keep (by simp) kf (fun b hb => nk b ?_ ?_) (fun b hlt hb => hD b ?_)
    · rcases hb with hb | ⟨hb, _⟩ <;> omega
    · intro h; have := hpsw b h; rcases hb with hb | ⟨hb, _⟩ <;> omega
    · refine ⟨?_, ?_, ?_, fun h => ?_, fun h => ?_⟩
      · rcases hb with hb | ⟨hb, _⟩ <;> omega
      · rcases hb with hb | ⟨_, hb⟩
        · intro h
          rcases evc b h with ⟨e1, _⟩ | ⟨e1, _⟩ <;> omega
        · exact hb
      · intro h
        have e : gg = b := by simpa [Value.ownBlock] using h
        rcases ggc with ⟨_, g2⟩ | g1
        · rcases hb with hb | ⟨hb, _⟩ <;> omega
        · omega
      · have := L1 b h; have := L2 b h
        rcases hb with hb | ⟨hb, _⟩ <;> omega
      · have := R1 b h; have := ltR b h
        rcases hb with hb | ⟨hb, _⟩ <;> omega

end Go.Proofs.Ytcbfmolebomkdaa
