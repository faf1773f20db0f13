/- The document's market: Account. -/
import Derived.Test.YtcbfmolebomkdaaD
import Derived.Deep.AppendLies
namespace Go.Proofs.Ytcbfmolebomkdaa
open Go.RowKit Go.Sort

theorem info63 : (Try.prog.info? 63).map (fun i => (i.zero, i.size, i.bytes)) = some (some (.agg #[.int .i64 0, .int .i64 0, .int .i64 0, .int .i64 0, .int .i64 0]), 5, 40) := by kernel_rfl

/-- the cells of a block that was laid last -/
theorem news_of_last {W : World} (X : Array Value) (t : TypeId) {B : Nat} (hB : B = W.heap.size) : ∀ j u, X.toList[j]? = some u → (W.alloc (.cells X t)).cell? ((⟨B, 0, none⟩ : Addr).add j) = some u := by
  subst hB
  exact World.news_of_block (heap_alloc_new W _)

theorem Ld.oneCell (l : Ld) : ∀ u, u ∈ l.cells → u.oneCell' = true := by simp [Ld.cells, Value.oneCell']

/-- what an account tells of a hall and a good -/
def stk (m : Mk) (t h g : Nat) : List Ld := if m.pc t h g ≠ 0 ∨ come t h g m.ld ≠ 0 then [⟨h, g, m.pc t h g, 0, come t h g m.ld⟩] else []
def stkRow (m : Mk) (t h : Nat) : Nat → List Ld
  | 0 => []
  | k + 1 => stkRow m t h k ++ stk m t h k
def stkTo (m : Mk) (t : Nat) : Nat → List Ld
  | 0 => []
  | i + 1 => stkTo m t i ++ stkRow m t i m.G

theorem stk_len (m : Mk) (t h g : Nat) : (stk m t h g).length ≤ 1 := by unfold stk; split <;> simp
theorem stkRow_len (m : Mk) (t h k : Nat) : (stkRow m t h k).length ≤ k := by
  induction k with
  | zero => simp [stkRow]
  | succ k ih => have := stk_len m t h k; simp only [stkRow, List.length_append]; omega
theorem stkTo_len (m : Mk) (t i : Nat) (h4 : m.G ≤ 4) : (stkTo m t i).length ≤ 4 * i := by
  induction i with
  | zero => simp [stkTo]
  | succ k ih => have := stkRow_len m t k m.G; simp only [stkTo, List.length_append]; omega

/-- An account under way: the result's block, the account's block, its goods. -/
structure AccSt (w : World) (x : Int) (gs : List Ld) (wr : World) : Prop where
  kp : Keeps [] w wr
  r0 : Own wr ⟨w.heap.size, 0, none⟩ (.int .i64 0)
  r1 : Own wr ⟨w.heap.size, 1, none⟩ (.int .i64 0)
  r2 : Own wr ⟨w.heap.size, 2, none⟩ (.slice none 0 0)
  a0 : Own wr ⟨w.heap.size + 1, 0, none⟩ (.int .i64 x)
  a1 : Own wr ⟨w.heap.size + 1, 1, none⟩ (.int .i64 0)
  v : ∃ a c, Own wr ⟨w.heap.size + 1, 2, none⟩ (.slice a gs.length c) ∧ wr.ownsRow (w.heap.size + 2) 63 5 (.slice a gs.length c) gs.length (ldCells gs)

theorem AccSt.later {w : World} {x : Int} {gs : List Ld} {wr wr' : World} (h : AccSt w x gs wr) (k : Keeps [] wr wr') : AccSt w x gs wr' := by
  obtain ⟨a, c, h1, h2⟩ := h.v
  exact ⟨h.kp.trans k, h.r0.keep k (by simp), h.r1.keep k (by simp), h.r2.keep k (by simp), h.a0.keep k (by simp), h.a1.keep k (by simp), a, c, h1.keep k (by simp), ownsRow_keep h2 k (by simp)⟩

theorem AccSt.start (w : World) (x : Int) : AccSt w x [] ((w.alloc (.cells #[.int .i64 0, .int .i64 0, .slice none 0 0] 74)).alloc (.cells #[.int .i64 x, .int .i64 0, .slice none 0 0] 74)) := by
  have h0 := heap_alloc2_old w (.cells #[.int .i64 0, .int .i64 0, .slice none 0 0] 74) (.cells #[.int .i64 x, .int .i64 0, .slice none 0 0] 74)
  have h1 := heap_alloc2_new w (.cells #[.int .i64 0, .int .i64 0, .slice none 0 0] 74) (.cells #[.int .i64 x, .int .i64 0, .slice none 0 0] 74)
  have c0 := fun j => cell_of_row _ _ j _ _ _ h0
  have c1 := fun j => cell_of_row _ _ j _ _ _ h1
  have f0 := fun j => frozen_of_row _ _ j _ _ h0
  have f1 := fun j => frozen_of_row _ _ j _ _ h1
  exact ⟨((Keeps.refl _ _).alloc _).alloc _, ⟨c0 0, f0 0⟩, ⟨c0 1, f0 1⟩, ⟨c0 2, f0 2⟩, ⟨c1 0, f1 0⟩, ⟨c1 1, f1 1⟩, none, 0, ⟨c1 2, f1 2⟩, World.ownsRow_nil _ _ _ _⟩

/-- one more, appended and stored -/
theorem AccSt.more {w : World} {x : Int} {gs : List Ld} {wr w1 : World} {a : Option Addr} {c gg cap : Nat} {o : Obj} (h : AccSt w x gs wr) (h1 : Own wr ⟨w.heap.size + 1, 2, none⟩ (.slice a gs.length c)) (h2 : wr.ownsRow (w.heap.size + 2) 63 5 (.slice a gs.length c) gs.length (ldCells gs))
    (hgrow : (wr.alloc o).grownBy w1 (Value.slice a gs.length c).ownBlock) (l : Ld) (hown1 : w1.ownsRow (w.heap.size + 2) 63 5 (.slice (some ⟨gg, 0, none⟩) (gs.length + 1) cap) (gs.length + 1) (ldCells gs ++ l.cells)) :
    AccSt w x (gs ++ [l]) (w1.setCell ⟨w.heap.size + 1, 2, none⟩ (.slice (some ⟨gg, 0, none⟩) (gs.length + 1) cap)) := by
  have fresh : ∀ b, (Value.slice a gs.length c).ownBlock = some b → w.heap.size + 2 ≤ b := fun b hb => (h2.lt b hb).1
  have k1 : Keeps (Value.slice a gs.length c).ownBlock.toList wr w1 := ((Keeps.refl _ _).alloc o).grown hgrow (fun b hb => .inl (by simp [hb]))
  have n0 : w.heap.size ∉ (Value.slice a gs.length c).ownBlock.toList := fun hb => by have := fresh _ (by simpa using hb); omega
  have n1 : w.heap.size + 1 ∉ (Value.slice a gs.length c).ownBlock.toList := fun hb => by have := fresh _ (by simpa using hb); omega
  have ne : ∀ j, j ≠ 2 → (⟨w.heap.size + 1, j, none⟩ : Addr) ≠ ⟨w.heap.size + 1, 2, none⟩ := fun j hj q => by injection q with _ q _; exact hj q
  have ne0 : ∀ j, (⟨w.heap.size, j, none⟩ : Addr) ≠ ⟨w.heap.size + 1, 2, none⟩ := fun j q => by injection q with q _ _; omega
  refine ⟨(h.kp.trans' k1 (fun b hb => .inr (by have := fresh b (by simpa using hb); omega))).setCell (.inr (by simp)) _, (h.r0.keep k1 n0).set_other (ne0 _) rfl rfl _, (h.r1.keep k1 n0).set_other (ne0 _) rfl rfl _, (h.r2.keep k1 n0).set_other (ne0 _) rfl rfl _,
    (h.a0.keep k1 n1).set_other (ne 0 (by decide)) rfl rfl _, (h.a1.keep k1 n1).set_other (ne 1 (by decide)) rfl rfl _, some ⟨gg, 0, none⟩, cap, ?_, ?_⟩
  · simpa using (h1.keep k1 n1).set rfl (.slice (some ⟨gg, 0, none⟩) (gs.length + 1) cap)
  · have := ownsRow_setCell_other hown1 (a := ⟨w.heap.size + 1, 2, none⟩) (by intro q; have := (hown1.lt _ q).1; simp only [] at this; omega) (.slice (some ⟨gg, 0, none⟩) (gs.length + 1) cap)
    simpa [ldCells_append, ldCells] using this

theorem three_set {w : World} {b : Nat} {u0 u1 u2 : Value} (h0 : Own w ⟨b, 0, none⟩ u0) (h1 : Own w ⟨b, 1, none⟩ u1) (h2 : Own w ⟨b, 2, none⟩ u2) (v0 v1 v2 : Value) :
    (((w.setCell ⟨b, 0, none⟩ v0).setCell ⟨b, 1, none⟩ v1).setCell ⟨b, 2, none⟩ v2).cell? ⟨b, 0, none⟩ = some v0 ∧ (((w.setCell ⟨b, 0, none⟩ v0).setCell ⟨b, 1, none⟩ v1).setCell ⟨b, 2, none⟩ v2).cell? ⟨b, 1, none⟩ = some v1 ∧ (((w.setCell ⟨b, 0, none⟩ v0).setCell ⟨b, 1, none⟩ v1).setCell ⟨b, 2, none⟩ v2).cell? ⟨b, 2, none⟩ = some v2 := by
  have ne : ∀ i j : Nat, i ≠ j → (⟨b, i, none⟩ : Addr) ≠ ⟨b, j, none⟩ := fun i j hj q => by injection q with _ q _; exact hj q
  exact ⟨(((h0.set rfl v0).set_other (ne 0 1 (by decide)) rfl rfl v1).set_other (ne 0 2 (by decide)) rfl rfl v2).cell, (((h1.set_other (ne 1 0 (by decide)) rfl rfl v0).set rfl v1).set_other (ne 1 2 (by decide)) rfl rfl v2).cell,
    (((h2.set_other (ne 2 0 (by decide)) rfl rfl v0).set_other (ne 2 1 (by decide)) rfl rfl v1).set rfl v2).cell⟩

theorem ownsRow_mono {w : World} {b b' : Nat} {e : TypeId} {size : Nat} {v : Value} {n : Nat} {xs : List Value} (h : w.ownsRow b e size v n xs) (hb : b' ≤ b) : w.ownsRow b' e size v n xs := by
  refine ⟨h.1, ?_⟩
  rcases h.2 with hn | ⟨g, cap, cur, rfl, hb', rest⟩
  · exact .inl hn
  · exact .inr ⟨g, cap, cur, rfl, Nat.le_trans hb hb', rest⟩

theorem refAccount_no (w : World) (L : RL) (m : Mk) (t : Int) (R : RefRep w L m) (ht : ¬ okI m.T t) :
    Calls Try.prog 22 #[.pointer (some ⟨L.c, 0, none⟩), .int .i64 t] w fun e w' => e = .returned (.tuple #[.agg #[.int .i64 0, .int .i64 0, .slice none 0 0], .int .i64 2]) ∧ Keeps [] w w' := by
  have c0 : ∀ o, (w.alloc o).cell? ⟨L.c, 0, none⟩ = some (.int .i64 m.T) := fun o => (R.cT.keep (S := []) ((Keeps.refl _ _).alloc o) (by simp)).cell
  go_enter Try.func22, Try.ntmps22
  go_wp2_with (first | (go_at_call 55; refine (trader_no _ _ _ _ (c0 _) ht).mono ?_; rintro e w' ⟨rfl, hw⟩; subst hw))
  exact bodyPost_ret (v := .tuple #[.agg #[.int .i64 0, .int .i64 0, .slice none 0 0], .int .i64 2]) (by simp [results, Try.results22, go_sem]) rfl ⟨rfl, (Keeps.refl _ _).alloc _⟩

set_option maxRecDepth 100000 in
set_option maxHeartbeats 1000000 in
theorem refAccount_yes (w : World) (L : RL) (m : Mk) (N : Int) (t : Nat) (R : RefRep w L m) (ok : m.Ok N) (ht : t < m.T) :
    Calls Try.prog 22 #[.pointer (some ⟨L.c, 0, none⟩), .int .i64 t] w fun e w' => ∃ v, e = .returned (.tuple #[.agg #[.int .i64 (m.mo t), .int .i64 0, v], .int .i64 0]) ∧ Keeps [] w w' ∧
      w'.ownsRow w.heap.size 63 5 v (stkTo m t m.H).length (ldCells (stkTo m t m.H)) := by
  have R1 : ∀ o, RefRep (w.alloc o) L m := fun o => R.keep (S := []) ((Keeps.refl _ _).alloc o) (by simp)
  have c0 : ∀ o, (w.alloc o).cell? ⟨L.c, 0, none⟩ = some (.int .i64 m.T) := fun o => (R1 o).cT.cell
  have HR1 := hide R1
  have HC := hide c0
  clear R1 c0
  obtain ⟨bm0, bm1⟩ := ok.mo t ht
  go_enter Try.func22, Try.ntmps22
  go_wp2_with fail
  refine (trader_yes _ _ _ _ (HC.out _) ⟨by omega, by omega⟩).mono ?_
  rintro e w' ⟨rfl, hw⟩
  subst hw
  go_wp2_with fail
  refine (free_any _ _ _ t _ _ (HR1.out _).cW.cell (HR1.out _).cM.cell ht ((HR1.out _).mo t ht).cell bm0 bm1).mono ?_
  rintro e w' ⟨rfl, hw⟩
  subst hw
  go_wp2_with fail
  refine (held_any _ _ _ (HR1.out _).cW.cell).mono ?_
  rintro e w' ⟨rfl, hw⟩
  subst hw
  go_wp2
  have A0 := AccSt.start w (m.mo t)
  generalize (w.alloc (.cells #[.int .i64 0, .int .i64 0, .slice none 0 0] 74)).alloc (.cells #[.int .i64 (m.mo t), .int .i64 0, .slice none 0 0] 74) = W0 at *
  have l4 := ok.G4
  have h4 := ok.H4
  go_loopw [8] (fun i wr => ∃ j : Nat, j ≤ m.H ∧ i = .int .i64 j ∧ AccSt w (m.mo t) (stkTo m t j) wr) (fun i _ => m.H - (intOf i).toNat)
  case atStart => exact ⟨0, Nat.zero_le _, rfl, A0⟩
  case round =>
    clear A0
    obtain ⟨j, hj, rfl, A⟩ := hrel
    have Rr := R.keep A.kp (by simp)
    have c2 := Rr.cR.cell
    by_cases hlt : j < m.H
    · go_wp2
      go_loopw [9] (fun i wr => ∃ k : Nat, k ≤ m.G ∧ i = .int .i64 k ∧ AccSt w (m.mo t) (stkTo m t j ++ stkRow m t j k) wr) (fun i _ => m.G - (intOf i).toNat)
      case atStart => exact ⟨0, Nat.zero_le _, rfl, by simpa [stkRow] using A⟩
      case round =>
        clear A Rr c2
        obtain ⟨k, hk, rfl, A⟩ := hrel
        have Rr := R.keep A.kp (by simp)
        have c1 := Rr.cG.cell
        by_cases hlk : k < m.G
        · have HRr := hide Rr
          have HA := hide A
          have c5 := hide Rr.cW.cell
          clear Rr A
          obtain ⟨bp0, bp1⟩ := ok.pc t j k ht hlt hlk
          go_wp2_with fail
          refine (spare_any _ L m N HRr.out ok t j k ht hlt hlk).mono ?_
          rintro e w' ⟨rfl, nd, rfl⟩
          go_wp2_with fail
          refine (kept_any _ _ _ _ _ (by simpa using c5.out)).mono ?_
          rintro e w' ⟨rfl, hw⟩
          subst hw
          go_wp2_with fail
          refine (coming_nat _ L m N (HRr.out.keep (S := []) ((Keeps.refl _ _).drewN _) (by simp)) ok t j k).mono ?_
          rintro e wc ⟨rfl, hbl⟩
          have Kc : Keeps [] wr wc := ((Keeps.refl _ _).drewN nd).trans (.of_below hbl)
          have Ac := HA.out.later Kc
          have HAc := hide Ac
          have HS := hide (show stkRow m t j (k + 1) = stkRow m t j k ++ stk m t j k from rfl)
          clear hbl Kc
          obtain ⟨va, vc, hv, hown⟩ := Ac.v
          have gl : (stkTo m t j ++ stkRow m t j k).length ≤ 16 := by have := stkTo_len m t j l4; have := stkRow_len m t j k; simp only [List.length_append]; omega
          have av : ∀ o, (wc.alloc o).cell? ⟨w.heap.size + 1, 2, none⟩ = some (.slice va (stkTo m t j ++ stkRow m t j k).length vc) := fun o => (hv.keep (S := []) ((Keeps.refl _ _).alloc o) (by simp)).cell
          have lw : w.heap.size + 1 < wc.heap.size := hv.lt
          have HV := hide hv
          clear hv Ac
          have HK := hide (show stk m t j k = if m.pc t j k ≠ 0 ∨ come t j k m.ld ≠ 0 then [⟨j, k, m.pc t j k, 0, come t j k m.ld⟩] else [] from rfl)
          generalize hG : stkTo m t j ++ stkRow m t j k = gs at *
          have HG := hide hG
          clear hG
          generalize m.pc t j k = x at *
          generalize come (t : Int) (j : Int) (k : Int) m.ld = y at *
          by_cases hx : x = 0 ∧ y = 0
          · obtain ⟨rfl, rfl⟩ := hx
            go_wp2
            refine ⟨⟨k + 1, by omega, by go_num, ?_⟩, by simp [intOf]; omega⟩
            rw [HS.out, ← List.append_assoc, HG.out, HK.out, if_neg (by simp), List.append_nil]
            exact HAc.out.later ((Keeps.refl _ _).alloc _)
          · have hxy : (x != 0) = true ∨ ((x != 0) = false ∧ (y != 0) = true) := by
              by_cases h1 : x = 0
              · exact .inr ⟨by simpa using h1, by simp; omega⟩
              · exact .inl (by simpa using h1)
            obtain ⟨i0, hi0, hz0, hz1, hz2⟩ := info_parts info63
            rcases hxy with h1 | ⟨h1, h2⟩
            all_goals
              go_wp2_with (at_builtin; refine wpList_append_lies _ rfl _ _ _ rfl (w.heap.size + 2) 63 i0 _ 5 40 Try.underlying61 hi0 hz0 hz1 hz2 rfl (by omega) _ gs.length (ldCells gs) rfl (by exact (hown.alloc _).alloc _) ⟨wc.heap.size + 1, 0, none⟩ 1 1 (Ld.cells ⟨j, k, x, 0, y⟩) rfl rfl (by exact news_of_last #[_, _, _, _, _] 63 (by simp)) (Ld.oneCell _) (by omega) (by simp only [maxLen]; omega) (by omega) (by simp; omega) (wc.heap.size + 2) (by simp) ?_)
              intro gg cap w1 hown1 hgrow hat hlt1
              have k1 : Keeps (Value.slice va gs.length vc).ownBlock.toList wc w1 := ((((Keeps.refl _ _).alloc _).alloc _)).grown hgrow (fun b hb => .inl (by simp [hb]))
              have n1 : w.heap.size + 1 ∉ (Value.slice va gs.length vc).ownBlock.toList := fun hb => by have := (hown.lt _ (by simpa using hb)).1; omega
              have z6 := (HV.out.keep k1 n1).cell
              have z7 := (HV.out.keep k1 n1).free
              clear k1 n1
              go_wp2
              refine ⟨⟨k + 1, by omega, by go_num, ?_⟩, by simp [intOf]; omega⟩
              rw [HS.out, ← List.append_assoc, HG.out, HK.out, if_pos (by simp at h1; omega)]
              exact (HAc.out.later ((Keeps.refl _ _).alloc _)).more (HV.out.keep (S := []) ((Keeps.refl _ _).alloc _) (by simp)) (hown.alloc _) hgrow ⟨j, k, x, 0, y⟩ hown1
        · have e1 : k = m.G := by omega
          subst e1
          go_wp2
          refine ⟨⟨j + 1, by omega, by go_num, ?_⟩, by simp [intOf]; omega⟩
          exact A
    · have e1 : j = m.H := by omega
      subst e1
      have HA := hide A
      obtain ⟨va, vc, hv, hown⟩ := A.v
      have x0 := A.a0.cell
      have x1 := A.a1.cell
      have x2 := hv.cell
      obtain ⟨y0, g0⟩ := A.r0
      obtain ⟨y1, g1⟩ := A.r1
      obtain ⟨y2, g2⟩ := A.r2
      clear A hv Rr
      go_wp2
      have T := three_set HA.out.r0 HA.out.r1 HA.out.r2 (.int .i64 (m.mo t)) (.int .i64 0) (.slice va (stkTo m t m.H).length vc)
      refine bodyPost_ret (v := .tuple #[.agg #[.int .i64 (m.mo t), .int .i64 0, .slice va (stkTo m t m.H).length vc], .int .i64 0]) (by simp [results, Try.results22, go_sem, T.1, T.2.1, T.2.2]) rfl ⟨_, rfl, ?_, ?_⟩
      · exact ((HA.out.kp.setCell (.inr (by simp)) _).setCell (.inr (by simp)) _).setCell (.inr (by simp)) _
      · refine ownsRow_setCell_other (ownsRow_setCell_other (ownsRow_setCell_other (ownsRow_mono hown (by omega)) ?_ _) ?_ _) ?_ _
        all_goals exact fun q => by have : w.heap.size + 2 ≤ w.heap.size := (hown.lt _ q).1; omega

end Go.Proofs.Ytcbfmolebomkdaa
