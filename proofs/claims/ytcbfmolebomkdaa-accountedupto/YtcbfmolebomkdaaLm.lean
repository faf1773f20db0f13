/- The law: account. -/
import Derived.Test.YtcbfmolebomkdaaLj
import Derived.Test.YtcbfmolebomkdaaW
namespace Go.Proofs.Ytcbfmolebomkdaa
open Go.RowKit

/-- what 'account' leaves: one entry more in book.a, all in new memory -/
def AccPost (w : World) (p B0 : Nat) (av : Value) (al : List Value) (w' : World) : Prop :=
  ∃ av' nv, Own w' ⟨p, 1, none⟩ av' ∧ w'.ownsRow B0 60 1 av' (al.length + 1) (al ++ [nv]) ∧ (av'.ownBlock = av.ownBlock ∨ ∃ b, av'.ownBlock = some b ∧ w.heap.size ≤ b) ∧
      (∀ j v, j ≠ 1 → Own w ⟨p, j, none⟩ v → Own w' ⟨p, j, none⟩ v) ∧ Keeps (p :: av.ownBlock.toList) w w' ∧
      ∀ D : Nat → Prop, (∀ b, w.heap.size ≤ b ∧ av'.ownBlock ≠ some b → D b) → Marked D w' nv [.int .i64 (-7070 - (al.length : Int)), .int .i64 0, .int .i64 0, .int .i64 0, .int .i64 0] 5

theorem acc_post {w w1 w' : World} {p B0 : Nat} {av : Value} {al : List Value} {l : Value} (k : Keeps [] w w1) (h : StocksPost w1 p B0 av al l w') (hl : ∀ b, l.ownBlock = some b → w.heap.size ≤ b) (hav : ∀ b, l.ownBlock = some b → b < w1.heap.size) (hown : ∀ b, av.ownBlock = some b → b < w.heap.size) : AccPost w p B0 av al w' := by
  obtain ⟨av', nv, h1, h2, h3, h4, h5, h6⟩ := h
  have s := k.size
  refine ⟨av', nv, h1, h2, h3.imp id (fun ⟨b, hb, hs⟩ => ⟨b, hb, by omega⟩), fun j v hj hv => h4 j v hj (hv.keep k (by simp)), ?_, fun D hD => h6 D (fun b hb => hD b ?_)⟩
  · refine (k.mono (by simp)).trans' h5 (fun i hi => ?_)
    rcases List.mem_cons.1 hi with rfl | hi
    · exact .inl List.mem_cons_self
    · rcases List.mem_append.1 hi with hi | hi
      · exact .inr (hl i (by simpa using hi))
      · exact .inl (List.mem_cons_of_mem _ hi)
  · rcases hb with hb | ⟨hb, hb'⟩
    · refine ⟨hl b hb, fun he => ?_⟩
      rcases h3 with h3 | ⟨b', hb', hs⟩
      · have := hown b (by rw [← h3]; exact he)
        have := hl b hb
        omega
      · have e : b' = b := by rw [he] at hb'; simpa using hb'.symm
        have := hav b hb
        omega
    · exact ⟨by omega, hb'⟩

set_option maxRecDepth 100000 in
set_option maxHeartbeats 1000000 in
theorem account_no (w : World) (p B0 : Nat) (av : Value) (al : List Value) (L : PL) (R : RL) (m : Mk) (N t : Int) (hp : PRep w L m) (hr : RefRep w R m) (ok : m.Ok N) (ht : ¬ okI m.T t)
    (hS : ∀ W l n c, Keeps [] w W → LRow W l 5 n c → n ≤ 16 → (∀ b, l.ownBlock = some b → w.heap.size ≤ b ∧ b < W.heap.size) → Calls Try.prog 23 #[.pointer (some ⟨p, 1, none⟩), l] W fun e w' => e = .returned (.tuple #[]) ∧ StocksPost W p B0 av al l w')
    (hown : ∀ b, av.ownBlock = some b → b < w.heap.size) :
    Calls Try.prog 8 #[.pointer (some ⟨p, 0, none⟩), .agg #[.pointer (some ⟨L.x, 0, none⟩), .pointer (some ⟨R.c, 0, none⟩)], .int .i64 t] w fun e w' => e = .returned (.bool true) ∧ AccPost w p B0 av al w' := by
  have HP := hide hp
  have HR := hide hr
  have HS := hide hS
  clear hp hr hS
  go_enter Try.func8, Try.ntmps8
  go_wp2_with fail
  have kb : Keeps [] w (w.alloc (.cells #[.pointer (some ⟨L.x, 0, none⟩), .pointer (some ⟨R.c, 0, none⟩)] 48)) := (Keeps.refl _ _).alloc _
  have hb := heap_alloc_new w (.cells #[.pointer (some ⟨L.x, 0, none⟩), .pointer (some ⟨R.c, 0, none⟩)] 48)
  refine (progAccount_no _ L m N t (HP.out.keep kb (by simp)) ok ht).mono ?_
  rintro e w1 ⟨rfl, k1⟩
  have b1 : ∀ o, (w1.alloc o).cell? ⟨w.heap.size, 1, none⟩ = some (.pointer (some ⟨R.c, 0, none⟩)) := fun o => cell_al (k1.cell (show (w.alloc _).cell? ⟨w.heap.size, 1, none⟩ = some _ from cell_of_row _ _ 1 _ _ _ hb) (by simp))
  clear hb
  go_wp2_with fail
  refine (refAccount_no _ R m t (((HR.out.keep kb (by simp)).keep k1 (by simp)).keep (S := []) ((Keeps.refl _ _).alloc _) (by simp)) ht).mono ?_
  rintro e w2 ⟨rfl, k2⟩
  have ha := fun j => cell_of_row _ _ j _ _ _ (heap_alloc_new w1 (.cells #[.int .i64 0, .int .i64 0, .slice none 0 0] 74))
  have a0 : ∀ o, (w2.alloc o).cell? ⟨w1.heap.size, 0, none⟩ = some (.int .i64 0) := fun o => cell_al (k2.cell (ha 0) (by simp))
  have a1 : ∀ o, (w2.alloc o).cell? ⟨w1.heap.size, 1, none⟩ = some (.int .i64 0) := fun o => cell_al (k2.cell (ha 1) (by simp))
  have a2 : ∀ o, (w2.alloc o).cell? ⟨w1.heap.size, 2, none⟩ = some (.slice none 0 0) := fun o => cell_al (k2.cell (ha 2) (by simp))
  have kk : Keeps [] w w2 := ((kb.trans k1).alloc _).trans k2
  clear ha kb k1 k2 b1
  go_wp2
  go_loop [11, 12] (fun o i => o = .bool true ∧ i = .int .i64 0) (fun _ _ => 0)
  case atStart => exact ⟨by simp, rfl⟩
  case round =>
    obtain ⟨rfl, rfl⟩ := hrel
    go_wp2
    go_region_with (go_at_call 23; refine (HS.out _ _ 0 0 ?_ (.inl ⟨rfl, rfl, rfl⟩) (by omega) (by simp [Value.ownBlock])).mono ?_; exact (kk.alloc _).drew; rintro e w3 ⟨rfl, hsp⟩)
    all_goals go_wp2
    go_ret
    exact ⟨rfl, acc_post ((kk.alloc _).drew) hsp (by simp [Value.ownBlock]) (by simp [Value.ownBlock]) hown⟩

set_option maxRecDepth 100000 in
set_option maxHeartbeats 1000000 in
theorem account_yes (w : World) (p B0 : Nat) (av : Value) (al : List Value) (L : PL) (R : RL) (m : Mk) (N : Int) (t : Nat) (hp : PRep w L m) (hr : RefRep w R m) (ok : m.Ok N) (ht : t < m.T)
    (hS : ∀ W l n c, Keeps [] w W → LRow W l 5 n c → n ≤ 16 → (∀ b, l.ownBlock = some b → w.heap.size ≤ b ∧ b < W.heap.size) → Calls Try.prog 23 #[.pointer (some ⟨p, 1, none⟩), l] W fun e w' => e = .returned (.tuple #[]) ∧ StocksPost W p B0 av al l w')
    (hown : ∀ b, av.ownBlock = some b → b < w.heap.size) :
    Calls Try.prog 8 #[.pointer (some ⟨p, 0, none⟩), .agg #[.pointer (some ⟨L.x, 0, none⟩), .pointer (some ⟨R.c, 0, none⟩)], .int .i64 t] w fun e w' => e = .returned (.bool true) ∧ AccPost w p B0 av al w' := by
  have HP := hide hp
  have HR := hide hr
  have HS := hide hS
  clear hp hr hS
  have hgl : (stkTo m t m.H).length ≤ 16 := by have := stkTo_len m t m.H ok.G4; have := ok.H4; omega
  go_enter Try.func8, Try.ntmps8
  go_wp2_with fail
  have kb : Keeps [] w (w.alloc (.cells #[.pointer (some ⟨L.x, 0, none⟩), .pointer (some ⟨R.c, 0, none⟩)] 48)) := (Keeps.refl _ _).alloc _
  have hb := heap_alloc_new w (.cells #[.pointer (some ⟨L.x, 0, none⟩), .pointer (some ⟨R.c, 0, none⟩)] 48)
  refine (progAccount_yes _ L m N t (HP.out.keep kb (by simp)) ok ht).mono ?_
  rintro e w1 ⟨v1, rfl, k1, r1⟩
  have b1 : ∀ o, (w1.alloc o).cell? ⟨w.heap.size, 1, none⟩ = some (.pointer (some ⟨R.c, 0, none⟩)) := fun o => cell_al (k1.cell (show (w.alloc _).cell? ⟨w.heap.size, 1, none⟩ = some _ from cell_of_row _ _ 1 _ _ _ hb) (by simp))
  clear hb
  obtain ⟨a1, c1, hv1⟩ : ∃ a c, v1 = .slice a (stkTo m t m.H).length c := by
    rcases r1.2 with ⟨h1, h2⟩ | ⟨_, _, _, h1, _⟩
    · exact ⟨none, 0, by rw [h1, h2]⟩
    · exact ⟨_, _, h1⟩
  subst hv1
  go_wp2_with fail
  refine (refAccount_yes _ R m N t (((HR.out.keep kb (by simp)).keep k1 (by simp)).keep (S := []) ((Keeps.refl _ _).alloc _) (by simp)) ok ht).mono ?_
  rintro e w2 ⟨v2, rfl, k2, r2⟩
  obtain ⟨a2, c2, hv2⟩ : ∃ a c, v2 = .slice a (stkTo m t m.H).length c := by
    rcases r2.2 with ⟨h1, h2⟩ | ⟨_, _, _, h1, _⟩
    · exact ⟨none, 0, by rw [h1, h2]⟩
    · exact ⟨_, _, h1⟩
  subst hv2
  have ha := fun j => cell_of_row _ _ j _ _ _ (heap_alloc_new w1 (.cells #[.int .i64 (m.mo t), .int .i64 0, .slice a1 (stkTo m t m.H).length c1] 74))
  have q0 : ∀ o, (w2.alloc o).cell? ⟨w1.heap.size, 0, none⟩ = some (.int .i64 (m.mo t)) := fun o => cell_al (k2.cell (ha 0) (by simp))
  have q1 : ∀ o, (w2.alloc o).cell? ⟨w1.heap.size, 1, none⟩ = some (.int .i64 0) := fun o => cell_al (k2.cell (ha 1) (by simp))
  have q2 : ∀ o, (w2.alloc o).cell? ⟨w1.heap.size, 2, none⟩ = some (.slice a1 (stkTo m t m.H).length c1) := fun o => cell_al (k2.cell (ha 2) (by simp))
  have kk : Keeps [] w w2 := ((kb.trans k1).alloc _).trans k2
  have sw : w.heap.size ≤ w1.heap.size := (kb.trans k1).size
  have x1 : Hid (∀ o, (w2.alloc o).ownsRow 0 63 5 (.slice a1 (stkTo m t m.H).length c1) (stkTo m t m.H).length (ldCells (stkTo m t m.H))) := hide fun o => ownsRow_keep (S := []) (ownsRow_mono r1 (Nat.zero_le _)) ((((Keeps.refl _ _).alloc _).trans k2).alloc o) (by simp)
  have x2 : Hid (∀ o, (w2.alloc o).ownsRow 0 63 5 (.slice a2 (stkTo m t m.H).length c2) (stkTo m t m.H).length (ldCells (stkTo m t m.H))) := hide fun o => (ownsRow_mono r2 (Nat.zero_le _)).alloc o
  have o1 : Hid (∀ b, (Value.slice a1 (stkTo m t m.H).length c1).ownBlock = some b → w.heap.size ≤ b ∧ b < w2.heap.size) := hide fun b hb => by
    have h1 := r1.lt b hb
    have h2 : w1.heap.size + 1 ≤ w2.heap.size := by have := k2.size; simpa using this
    have h3 := kb.size
    simp only [World.size_alloc] at h1 h3
    omega
  have hlr : Hid (∃ c, LRow w2 (.slice a1 (stkTo m t m.H).length c1) 5 (stkTo m t m.H).length c) := hide (LRow.of_row (ownsRow_keep (S := []) r1 (((Keeps.refl _ _).alloc _).trans k2) (by simp)))
  clear ha kb k1 k2 b1 r1 r2
  generalize stkTo m t m.H = gs at *
  go_wp2
  obtain ⟨W, hW⟩ : ∃ W, W = w2.alloc (.cells #[.int .i64 (m.mo t), .int .i64 0, .slice a2 gs.length c2] 74) := ⟨_, rfl⟩
  rw [← hW]
  have f1 : W.cell? ⟨w1.heap.size, 2, none⟩ = some (.slice a1 gs.length c1) := hW ▸ q2 _
  have f2 : W.cell? ⟨w2.heap.size, 2, none⟩ = some (.slice a2 gs.length c2) := by rw [hW]; exact cell_of_row _ _ 2 _ _ _ (heap_alloc_new w2 _)
  have X1 := hide (show W.ownsRow 0 63 5 (.slice a1 gs.length c1) gs.length (ldCells gs) from hW ▸ x1.out _)
  have X2 := hide (show W.ownsRow 0 63 5 (.slice a2 gs.length c2) gs.length (ldCells gs) from hW ▸ x2.out _)
  have kW : Keeps [] w2 W := by rw [hW]; exact (Keeps.refl _ _).alloc _
  have sz := kW.size
  clear hW q0 q1 q2 x1 x2
  go_loopw [11, 12] (fun o i wr => ∃ k : Nat, k ≤ gs.length ∧ i = .int .i64 k ∧ o = .bool true ∧ ∃ nd, wr = W.drewN nd) (fun _ i _ => gs.length - (intOf i).toNat)
  case atStart => exact ⟨0, by omega, rfl, by simp, 0, rfl⟩
  case round =>
    obtain ⟨k, hk, rfl, rfl, nd, rfl⟩ := hrel
    by_cases hlt : k < gs.length
    · obtain ⟨g1, d1, e1, y0, y1, y2, y3, y4⟩ := load_cells X1.out k hlt
      obtain ⟨g2, d2, e2, z0, z1, z2, z3, z4⟩ := load_cells X2.out k hlt
      simp only [Value.slice.injEq, true_and] at e1 e2
      obtain ⟨rfl, rfl⟩ := e1
      obtain ⟨rfl, rfl⟩ := e2
      generalize gs[k] = l at *
      go_wp2
      go_quiet (fail)
      go_wp2
      exact ⟨⟨k + 1, by omega, by go_num, rfl, _, rfl⟩, by simp [intOf]; omega⟩
    · obtain ⟨cc, hcl⟩ := hlr.out
      have HCL := hide hcl
      clear hcl
      go_wp2
      go_region_with (go_at_call 23; refine (HS.out _ _ gs.length cc ?_ ?_ hgl ?_).mono ?_; exact ((kk.trans kW).drewN _); exact HCL.out.ext (row := none) (.of_keeps (kW.drewN _)); exact (fun b hb => ⟨(o1.out b hb).1, Nat.lt_of_lt_of_le (o1.out b hb).2 sz⟩); rintro e w3 ⟨rfl, hsp⟩)
      all_goals go_wp2
      go_ret
      exact ⟨rfl, acc_post ((kk.trans kW).drewN _) hsp (fun b hb => (o1.out b hb).1) (fun b hb => Nat.lt_of_lt_of_le (o1.out b hb).2 sz) hown⟩

end Go.Proofs.Ytcbfmolebomkdaa
