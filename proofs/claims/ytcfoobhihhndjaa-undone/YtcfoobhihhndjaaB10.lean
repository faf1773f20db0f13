/- The program's market: Account. -/
import Derived.Deep.CutRange
import Derived.Deep.RegionHeld3
import Derived.Deep.RegionLaw
import Derived.Test.YtcfoobhihhndjaaB07
import Derived.Test.YtcfoobhihhndjaaB09
namespace Go.Proofs.Ytcfoobhihhndjaa

section
open Go.RowKit Go.Sort

/-- What an account tells of a hall and a good: hall, good, free, held, coming. -/
structure Sk where
  h : Int
  g : Int
  f : Int
  k : Int
  c : Int

def Sk.cells (l : Sk) : List Value := [.int .i64 l.h, .int .i64 l.g, .int .i64 l.f, .int .i64 l.k, .int .i64 l.c]
def skCells (l : List Sk) : List Value := l.flatMap Sk.cells
theorem skCells_append (a b : List Sk) : skCells (a ++ b) = skCells a ++ skCells b := by simp [skCells]
theorem Sk.oneCell' (l : Sk) : ∀ u, u ∈ l.cells → u.oneCell' = true := by simp [Sk.cells, Value.oneCell']

theorem infoStock : (Try.prog.info? 33).map (fun i => (i.zero, i.size, i.bytes)) = some (some (.agg #[.int .i64 0, .int .i64 0, .int .i64 0, .int .i64 0, .int .i64 0]), 5, 40) := by kernel_rfl

def stk (m : Mt) (t h g : Nat) : List Sk := if m.pc t h g ≠ 0 ∨ m.kept t h g ≠ 0 ∨ m.come t h g ≠ 0 then [⟨h, g, m.pc t h g, m.kept t h g, m.come t h g⟩] else []
def stkRow (m : Mt) (t h : Nat) : Nat → List Sk
  | 0 => []
  | k + 1 => stkRow m t h k ++ stk m t h k
def stkTo (m : Mt) (t : Nat) : Nat → List Sk
  | 0 => []
  | i + 1 => stkTo m t i ++ stkRow m t i m.G

theorem stk_len (m : Mt) (t h g : Nat) : (stk m t h g).length ≤ 1 := by unfold stk; split <;> simp
theorem stkRow_len (m : Mt) (t h k : Nat) : (stkRow m t h k).length ≤ k := by
  induction k with
  | zero => simp [stkRow]
  | succ k ih => have := stk_len m t h k; simp only [stkRow, List.length_append]; omega
theorem stkTo_len (m : Mt) (t i : Nat) (h4 : m.G ≤ 4) : (stkTo m t i).length ≤ 4 * i := by
  induction i with
  | zero => simp [stkTo]
  | succ k ih => have := stkRow_len m t k m.G; simp only [stkTo, List.length_append]; omega

/-- An account under way: the result's block, the account's block A, its goods. -/
structure AccSt (w : World) (A : Nat) (x y : Int) (gs : List Sk) (wr : World) : Prop where
  kp : Kep non w wr
  lA : w.heap.size < A
  r0 : Own wr ⟨w.heap.size, 0, none⟩ (.int .i64 0)
  r1 : Own wr ⟨w.heap.size, 1, none⟩ (.int .i64 0)
  r2 : Own wr ⟨w.heap.size, 2, none⟩ (.slice none 0 0)
  a0 : Own wr ⟨A, 0, none⟩ (.int .i64 x)
  a1 : Own wr ⟨A, 1, none⟩ (.int .i64 y)
  v : ∃ a c, Own wr ⟨A, 2, none⟩ (.slice a gs.length c) ∧ wr.ownsRow (A + 1) 33 5 (.slice a gs.length c) gs.length (skCells gs)

theorem AccSt.later {w : World} {A : Nat} {x y : Int} {gs : List Sk} {wr wr' : World} (h : AccSt w A x y gs wr) (k : Kep non wr wr') : AccSt w A x y gs wr' := by
  obtain ⟨a, c, h1, h2⟩ := h.v
  have n : ∀ b, ¬ non b := fun _ q => q
  exact ⟨h.kp.trans k, h.lA, h.r0.kep k (n _), h.r1.kep k (n _), h.r2.kep k (n _), h.a0.kep k (n _), h.a1.kep k (n _), a, c, h1.kep k (n _), ownsRow_kep h2 k (fun _ _ => n _)⟩

/-- the account's block, laid -/
theorem AccSt.start {w W W1 : World} (x y : Int) (hw : W = w.alloc (.cells #[.int .i64 0, .int .i64 0, .slice none 0 0] 62)) (k : Kep non W W1) :
    AccSt w W1.heap.size x y [] (W1.alloc (.cells #[.int .i64 x, .int .i64 y, .slice none 0 0] 62)) := by
  have h0 := heap_alloc_new w (.cells #[.int .i64 0, .int .i64 0, .slice none 0 0] 62)
  have h1 := heap_alloc_new W1 (.cells #[.int .i64 x, .int .i64 y, .slice none 0 0] 62)
  rw [← hw] at h0
  have c0 := fun j => cell_of_row _ _ j _ _ _ h0
  have c1 := fun j => cell_of_row _ _ j _ _ _ h1
  have f0 := fun j => frozen_of_row _ _ j _ _ h0
  have f1 := fun j => frozen_of_row _ _ j _ _ h1
  have k2 := k.alloc (.cells #[.int .i64 x, .int .i64 y, .slice none 0 0] 62)
  have k0 : Kep non w W := by rw [hw]; exact (Kep.refl _ _).alloc _
  have n : ∀ b, ¬ non b := fun _ q => q
  have hz := k.size
  have hs : W.heap.size = w.heap.size + 1 := by rw [hw]; simp
  exact ⟨k0.trans k2, by omega, (Own.mk (c0 0) (f0 0)).kep k2 (n _), (Own.mk (c0 1) (f0 1)).kep k2 (n _), (Own.mk (c0 2) (f0 2)).kep k2 (n _), ⟨c1 0, f1 0⟩, ⟨c1 1, f1 1⟩, none, 0, ⟨c1 2, f1 2⟩, World.ownsRow_nil _ _ _ _⟩

/-- the account's block, laid ahead and stored -/
theorem AccSt.start2 {w W W1 : World} (x y : Int) (hw : W = w.alloc (.cells #[.int .i64 0, .int .i64 0, .slice none 0 0] 62)) (k : Kep non (W.alloc (.cells #[.int .i64 0, .int .i64 0, .slice none 0 0] 62)) W1) :
    AccSt w W.heap.size x y [] (((W1.setCell ⟨W.heap.size, 0, none⟩ (.int .i64 x)).setCell ⟨W.heap.size, 1, none⟩ (.int .i64 y)).setCell ⟨W.heap.size, 2, none⟩ (.slice none 0 0)) := by
  have h0 := heap_alloc_new w (.cells #[.int .i64 0, .int .i64 0, .slice none 0 0] 62)
  have h1 := heap_alloc_new W (.cells #[.int .i64 0, .int .i64 0, .slice none 0 0] 62)
  rw [← hw] at h0
  have c0 := fun j => cell_of_row _ _ j _ _ _ h0
  have c1 := fun j => cell_of_row _ _ j _ _ _ h1
  have f0 := fun j => frozen_of_row _ _ j _ _ h0
  have f1 := fun j => frozen_of_row _ _ j _ _ h1
  have k0 : Kep non w W := by rw [hw]; exact (Kep.refl _ _).alloc _
  have k1 : Kep non W W1 := ((Kep.refl _ _).alloc _).trans k
  have n : ∀ b, ¬ non b := fun _ q => q
  have hs : W.heap.size = w.heap.size + 1 := by rw [hw]; simp
  have ne : ∀ i j : Nat, i ≠ j → (⟨W.heap.size, i, none⟩ : Addr) ≠ ⟨W.heap.size, j, none⟩ := fun i j hj q => by injection q with _ q _; exact hj q
  have ne0 : ∀ i j, (⟨w.heap.size, i, none⟩ : Addr) ≠ ⟨W.heap.size, j, none⟩ := fun i j q => by injection q with q _ _; omega
  have r : ∀ {j u}, Own W ⟨w.heap.size, j, none⟩ u → Own (((W1.setCell ⟨W.heap.size, 0, none⟩ (.int .i64 x)).setCell ⟨W.heap.size, 1, none⟩ (.int .i64 y)).setCell ⟨W.heap.size, 2, none⟩ (.slice none 0 0)) ⟨w.heap.size, j, none⟩ u :=
    fun h => (((h.kep k1 (n _)).set_other (ne0 _ _) rfl rfl _).set_other (ne0 _ _) rfl rfl _).set_other (ne0 _ _) rfl rfl _
  have a0 := (Own.mk (c1 0) (f1 0)).kep k (n _)
  have a1 := (Own.mk (c1 1) (f1 1)).kep k (n _)
  have a2 := (Own.mk (c1 2) (f1 2)).kep k (n _)
  refine ⟨(((k0.trans k1).setCell (p := ⟨W.heap.size, 0, none⟩) (.inr (by simp only []; omega)) _).setCell (p := ⟨W.heap.size, 1, none⟩) (.inr (by simp only []; omega)) _).setCell (p := ⟨W.heap.size, 2, none⟩) (.inr (by simp only []; omega)) _, by omega, r ⟨c0 0, f0 0⟩, r ⟨c0 1, f0 1⟩, r ⟨c0 2, f0 2⟩,
    ((a0.set rfl _).set_other (ne 0 1 (by decide)) rfl rfl _).set_other (ne 0 2 (by decide)) rfl rfl _, ((a1.set_other (ne 1 0 (by decide)) rfl rfl _).set rfl _).set_other (ne 1 2 (by decide)) rfl rfl _, none, 0, ((a2.set_other (ne 2 0 (by decide)) rfl rfl _).set_other (ne 2 1 (by decide)) rfl rfl _).set rfl _, World.ownsRow_nil _ _ _ _⟩

/-- one more, appended and stored -/
theorem AccSt.more {w : World} {A : Nat} {x y : Int} {gs : List Sk} {wr w1 : World} {a : Option Addr} {c gg cap : Nat} {o : Obj} (h : AccSt w A x y gs wr) (h1 : Own wr ⟨A, 2, none⟩ (.slice a gs.length c)) (h2 : wr.ownsRow (A + 1) 33 5 (.slice a gs.length c) gs.length (skCells gs))
    (hgrow : (wr.alloc o).grownBy w1 (Value.slice a gs.length c).ownBlock) (l : Sk) (hown1 : w1.ownsRow (A + 1) 33 5 (.slice (some ⟨gg, 0, none⟩) (gs.length + 1) cap) (gs.length + 1) (skCells gs ++ l.cells)) :
    AccSt w A x y (gs ++ [l]) (w1.setCell ⟨A, 2, none⟩ (.slice (some ⟨gg, 0, none⟩) (gs.length + 1) cap)) := by
  have fresh : ∀ b, (Value.slice a gs.length c).ownBlock = some b → A + 1 ≤ b := fun b hb => (h2.lt b hb).1
  have k1 : Kep (fun b => (Value.slice a gs.length c).ownBlock = some b) wr w1 := ((Kep.refl _ _).alloc o).grown hgrow (fun b hb => .inl hb)
  have lA := h.lA
  have n0 : ¬ (Value.slice a gs.length c).ownBlock = some w.heap.size := fun hb => by have := fresh _ hb; omega
  have n1 : ¬ (Value.slice a gs.length c).ownBlock = some A := fun hb => by have := fresh _ hb; omega
  have ne : ∀ j, j ≠ 2 → (⟨A, j, none⟩ : Addr) ≠ ⟨A, 2, none⟩ := fun j hj q => by injection q with _ q _; exact hj q
  have ne0 : ∀ j, (⟨w.heap.size, j, none⟩ : Addr) ≠ ⟨A, 2, none⟩ := fun j q => by injection q with q _ _; omega
  refine ⟨(h.kp.trans' k1 (fun b hb => .inr (by have := fresh b hb; omega))).setCell (p := ⟨A, 2, none⟩) (.inr (by simp only []; omega)) _, lA, (h.r0.kep k1 n0).set_other (ne0 _) rfl rfl _, (h.r1.kep k1 n0).set_other (ne0 _) rfl rfl _, (h.r2.kep k1 n0).set_other (ne0 _) rfl rfl _,
    (h.a0.kep k1 n1).set_other (ne 0 (by decide)) rfl rfl _, (h.a1.kep k1 n1).set_other (ne 1 (by decide)) rfl rfl _, some ⟨gg, 0, none⟩, cap, ?_, ?_⟩
  · simpa using (h1.kep k1 n1).set rfl (.slice (some ⟨gg, 0, none⟩) (gs.length + 1) cap)
  · have := ownsRow_setCell_other hown1 (a := ⟨A, 2, none⟩) (by intro q; have := (hown1.lt _ q).1; simp only [] at this; omega) (.slice (some ⟨gg, 0, none⟩) (gs.length + 1) cap)
    simpa [skCells_append, skCells] using this

theorem three_set {w : World} {b : Nat} {u0 u1 u2 : Value} (h0 : Own w ⟨b, 0, none⟩ u0) (h1 : Own w ⟨b, 1, none⟩ u1) (h2 : Own w ⟨b, 2, none⟩ u2) (v0 v1 v2 : Value) :
    (((w.setCell ⟨b, 0, none⟩ v0).setCell ⟨b, 1, none⟩ v1).setCell ⟨b, 2, none⟩ v2).cell? ⟨b, 0, none⟩ = some v0 ∧ (((w.setCell ⟨b, 0, none⟩ v0).setCell ⟨b, 1, none⟩ v1).setCell ⟨b, 2, none⟩ v2).cell? ⟨b, 1, none⟩ = some v1 ∧ (((w.setCell ⟨b, 0, none⟩ v0).setCell ⟨b, 1, none⟩ v1).setCell ⟨b, 2, none⟩ v2).cell? ⟨b, 2, none⟩ = some v2 := by
  have ne : ∀ i j : Nat, i ≠ j → (⟨b, i, none⟩ : Addr) ≠ ⟨b, j, none⟩ := fun i j hj q => by injection q with _ q _; exact hj q
  exact ⟨(((h0.set rfl v0).set_other (ne 0 1 (by decide)) rfl rfl v1).set_other (ne 0 2 (by decide)) rfl rfl v2).cell, (((h1.set_other (ne 1 0 (by decide)) rfl rfl v0).set rfl v1).set_other (ne 1 2 (by decide)) rfl rfl v2).cell,
    (((h2.set_other (ne 2 0 (by decide)) rfl rfl v0).set_other (ne 2 1 (by decide)) rfl rfl v1).set rfl v2).cell⟩

theorem ownsRow_mono {w : World} {b b' : Nat} {e : TypeId} {size : Nat} {v : Value} {n : Nat} {xs : List Value} (h : w.ownsRow b e size v n xs) (hb : b' ≤ b) : w.ownsRow b' e size v n xs := by
  refine ⟨h.1, ?_⟩
  rcases h.2 with hn | ⟨g, cap, cur, rfl, hb', rest⟩
  · exact .inl hn
  · exact .inr ⟨g, cap, cur, rfl, Nat.le_trans hb hb', rest⟩

theorem account_no (w : World) (L : PL) (m : Mt) (N t : Int) (R : PRep w L m) (ok : m.Ok N) (ht : ¬ okI m.T t) :
    Calls Try.prog 22 #[.pointer (some ⟨L.x, 0, none⟩), .int .i64 t] w fun e w' => e = .returned (.tuple #[.agg #[.int .i64 0, .int .i64 0, .slice none 0 0], .int .i64 2]) ∧ Kep non w w' := by
  have c2 : ∀ o, (w.alloc o).cell? ⟨L.x, 2, none⟩ = some (.slice (some ⟨L.ab, 0, none⟩) m.T m.T) := fun o => (R.cA.kep ((Kep.refl non _).alloc o) (fun q => q)).cell
  have i1 := hide (inB_not ht)
  have bT := ok.T8
  go_enter Try.func22, Try.ntmps22
  go_wp2_with (first | (go_at_call 31; refine (hasTrader_b _ _ _ _ _ _ bT (c2 _)).mono ?_; rw [i1.out]; rintro e w' ⟨rfl, hw⟩; subst hw))
  exact bodyPost_ret (v := .tuple #[.agg #[.int .i64 0, .int .i64 0, .slice none 0 0], .int .i64 2]) (by simp [results, Try.results22, go_sem]) rfl ⟨rfl, (Kep.refl _ _).alloc _⟩

set_option maxRecDepth 100000 in
set_option maxHeartbeats 2000000 in
theorem account_yes (w : World) (L : PL) (m : Mt) (N : Int) (t : Nat) (R : PRep w L m) (ok : m.Ok N) (ht : t < m.T) :
    Calls Try.prog 22 #[.pointer (some ⟨L.x, 0, none⟩), .int .i64 t] w fun e w' => ∃ v, e = .returned (.tuple #[.agg #[.int .i64 (m.mo t), .int .i64 (m.held t), v], .int .i64 0]) ∧ Kep non w w' ∧
      w'.ownsRow w.heap.size 33 5 v (stkTo m t m.H).length (skCells (stkTo m t m.H)) := by
  have bT := ok.T8
  have i1 := hide (inB_okI (show okI m.T t from ⟨by omega, by omega⟩))
  have HW : Hid (∀ W, Kep non w W → W.cell? ⟨L.x, 2, none⟩ = some (.slice (some ⟨L.ab, 0, none⟩) m.T m.T) ∧ W.cell? ⟨L.ab, t * 17, none⟩ = some (.int .i64 (m.mo t))) := hide fun W k => ⟨(R.later k).cA.cell, ((R.later k).mo t ht).cell⟩
  have HM := hide (fun W (k : Kep non w W) => heldMoney_any W L m N t (R.later k) ok)
  have l4 := ok.G4
  have h4 := ok.H4
  have ht' : (t : Int) < (m.T : Int) := by omega
  have HWe : Hid (∃ W0, W0 = w.alloc (.cells #[.int .i64 0, .int .i64 0, .slice none 0 0] 62)) := hide ⟨_, rfl⟩
  have c2 : (w.alloc (.cells #[.int .i64 0, .int .i64 0, .slice none 0 0] 62)).cell? ⟨L.x, 2, none⟩ = some (.slice (some ⟨L.ab, 0, none⟩) m.T m.T) := (HW.out _ ((Kep.refl _ _).alloc _)).1
  go_enter Try.func22, Try.ntmps22
  go_wp2_with (first | (go_at_call 31; refine (hasTrader_b _ _ _ _ _ _ bT c2).mono ?_; rw [i1.out]; rintro e w' ⟨rfl, hw⟩; subst hw))
  obtain ⟨W0, hW0⟩ := HWe.out
  rw [← hW0]
  have K0 : Kep non w W0 := by rw [hW0]; exact (Kep.refl _ _).alloc _
  have HW0 := hide hW0
  have HK0 := hide K0
  have hz0 := K0.size
  clear hW0 K0 c2 HWe
  obtain ⟨c2, cm⟩ := HW.out _ HK0.out
  go_cut [6] from 15 to 26 (fun v6 wx => ∃ A : Nat, v6 = .pointer (some ⟨A, 0, none⟩) ∧ AccSt w A (m.mo t) (m.held t) [] wx)
  case first =>
    go_region_held3 (fun w' => w'.cell? ⟨L.x, 2, none⟩ = some (.slice (some ⟨L.ab, 0, none⟩) m.T m.T) ∧ w'.cell? ⟨L.ab, t * 17, none⟩ = some (.int .i64 (m.mo t)))
      ((refine HW.out _ ?_; (repeat (first | apply Kep.drew | apply Kep.alloc | (refine Kep.setCell ?_ (.inr (by simp only []; omega)) _))); first | exact HK0.out | assumption))
      ((go_at_call 48; refine (HM.out _ ?_).mono ?_; ((repeat (first | apply Kep.drew | apply Kep.alloc)); first | exact HK0.out | assumption); rintro e w1 ⟨rfl, kb⟩; have K1 : Kep non w w1 := Kep.trans (by (repeat (first | apply Kep.drew | apply Kep.alloc)); exact HK0.out) (Kep.of_below kb); have hz1 := K1.size; have hc : ∀ b o, b < _ → w1.cell? ⟨b, o, none⟩ = _ := fun b o h => kb.cell (p := ⟨b, o, none⟩) h; have hf : ∀ b o, b < _ → w1.frozen? ⟨b, o, none⟩ = _ := fun b o h => kb.frozen (p := ⟨b, o, none⟩) h))
    all_goals go_step
    all_goals go_step
    all_goals go_meet
    · exact ⟨_, rfl, AccSt.start _ _ HW0.out ((Kep.refl non W0).drew.trans (Kep.of_below kb))⟩
    · exact ⟨_, rfl, AccSt.start2 _ _ HW0.out ((Kep.refl non _).drew.trans (Kep.of_below kb))⟩
  case rest =>
    obtain ⟨A, rfl, A0⟩ := hcut
    clear HW HM HW0 HK0 c2 cm i1 hz0
    have c1 := (R.later A0.kp).cR.cell
    go_wp2
    clear c1
    go_loopw [32] (fun i wr => ∃ j : Nat, j ≤ m.H ∧ i = .int .i64 j ∧ AccSt w A (m.mo t) (m.held t) (stkTo m t j) wr) (fun i _ => m.H - (intOf i).toNat)
    case atStart => exact ⟨0, Nat.zero_le _, rfl, A0⟩
    case round =>
      clear A0
      obtain ⟨j, hj, rfl, A1⟩ := hrel
      by_cases hlt : j < m.H
      · have Rr := R.later A1.kp
        have c0 := Rr.cG.cell
        clear Rr
        go_wp2
        clear c0
        go_loopw [39] (fun i wr => ∃ k : Nat, k ≤ m.G ∧ i = .int .i64 k ∧ AccSt w A (m.mo t) (m.held t) (stkTo m t j ++ stkRow m t j k) wr) (fun i _ => m.G - (intOf i).toNat)
        case atStart => exact ⟨0, Nat.zero_le _, rfl, by simpa [stkRow] using A1⟩
        case round =>
          clear A1
          obtain ⟨k, hk, rfl, A1⟩ := hrel
          by_cases hlk : k < m.G
          · have Rr := R.later A1.kp
            have HQ := hide (stock_any _ L m N Rr ok t j k ht (by omega) (by omega))
            have HA := hide A1
            clear Rr A1
            go_wp2_with fail
            refine HQ.out.mono ?_
            rintro e wc ⟨rfl, Kc⟩
            clear HQ
            have Ac := HA.out.later (Kep.of_below Kc)
            have HAc := hide Ac
            have HS := hide (show stkRow m t j (k + 1) = stkRow m t j k ++ stk m t j k from rfl)
            clear Kc
            obtain ⟨va, vc, hv, hown⟩ := Ac.v
            have gl : (stkTo m t j ++ stkRow m t j k).length ≤ 16 := by have := stkTo_len m t j l4; have := stkRow_len m t j k; simp only [List.length_append]; omega
            have av : ∀ o, (wc.alloc o).cell? ⟨A, 2, none⟩ = some (.slice va (stkTo m t j ++ stkRow m t j k).length vc) := fun o => (hv.kep ((Kep.refl non _).alloc o) (fun q => q)).cell
            have lw : A < wc.heap.size := hv.lt
            have HV := hide hv
            clear hv Ac
            have HK := hide (show stk m t j k = if m.pc t j k ≠ 0 ∨ m.kept t j k ≠ 0 ∨ m.come t j k ≠ 0 then [⟨j, k, m.pc t j k, m.kept t j k, m.come t j k⟩] else [] from rfl)
            generalize hG : stkTo m t j ++ stkRow m t j k = gs at *
            have HG := hide hG
            clear hG
            generalize m.pc t j k = x at *
            generalize m.kept t j k = z at *
            generalize m.come t j k = y at *
            by_cases hx : x = 0 ∧ z = 0 ∧ y = 0
            · obtain ⟨rfl, rfl, rfl⟩ := hx
              go_wp2
              refine ⟨⟨k + 1, by omega, by go_num, ?_⟩, by simp [intOf]; omega⟩
              rw [HS.out, ← List.append_assoc, HG.out, HK.out, if_neg (by simp), List.append_nil]
              exact HAc.out.later ((Kep.refl _ _).alloc _)
            · have hxy : (x != 0) = true ∨ ((x != 0) = false ∧ (z != 0) = true) ∨ ((x != 0) = false ∧ (z != 0) = false ∧ (y != 0) = true) := by
                by_cases h1 : x = 0
                · by_cases h2 : z = 0
                  · exact .inr (.inr ⟨by simpa using h1, by simpa using h2, by simp; omega⟩)
                  · exact .inr (.inl ⟨by simpa using h1, by simpa using h2⟩)
                · exact .inl (by simpa using h1)
              have HX : Hid (x ≠ 0 ∨ z ≠ 0 ∨ y ≠ 0) := hide (by omega)
              clear hx
              obtain ⟨i0, hi0, hz0, hz1, hz2⟩ := info_parts infoStock
              rcases hxy with h1 | ⟨h1, h2⟩ | ⟨h1, h2, h3⟩
              all_goals
                go_wp2_with (at_builtin; refine wpList_append_lies _ rfl _ _ _ rfl (A + 1) 33 i0 _ 5 40 Try.underlying60 hi0 hz0 hz1 hz2 rfl (by omega) _ gs.length (skCells gs) rfl (by exact (hown.alloc _).alloc _) ⟨wc.heap.size + 1, 0, none⟩ 1 1 (Sk.cells ⟨j, k, x, z, y⟩) rfl rfl (by exact news_of_last' #[_, _, _, _, _] 33 (by simp)) (Sk.oneCell' _) (by omega) (by simp only [maxLen]; omega) (by omega) (by simp; omega) (wc.heap.size + 2) (by simp) ?_)
                intro gg cap w1 hown1 hgrow hat hlt1
                have k1 : Kep (fun b => (Value.slice va gs.length vc).ownBlock = some b) wc w1 := ((((Kep.refl _ _).alloc _).alloc _)).grown hgrow (fun b hb => .inl hb)
                have n1 : ¬ (Value.slice va gs.length vc).ownBlock = some A := fun hb => by have := (hown.lt _ hb).1; omega
                have z6 := (HV.out.kep k1 n1).cell
                have z7 := (HV.out.kep k1 n1).free
                clear k1 n1
                go_wp2
                refine ⟨⟨k + 1, by omega, by go_num, ?_⟩, by simp [intOf]; omega⟩
                rw [HS.out, ← List.append_assoc, HG.out, HK.out, if_pos HX.out]
                exact (HAc.out.later ((Kep.refl _ _).alloc _)).more (HV.out.kep ((Kep.refl non _).alloc _) (fun q => q)) (hown.alloc _) hgrow ⟨j, k, x, z, y⟩ hown1
          · have e1 : k = m.G := by omega
            subst e1
            go_wp2
            refine ⟨⟨j + 1, by omega, by go_num, ?_⟩, by simp [intOf]; omega⟩
            exact A1
      · have e1 : j = m.H := by omega
        subst e1
        have HA := hide A1
        obtain ⟨va, vc, hv, hown⟩ := A1.v
        have x0 := A1.a0.cell
        have x1 := A1.a1.cell
        have x2 := hv.cell
        have lA := A1.lA
        obtain ⟨y0, g0⟩ := A1.r0
        obtain ⟨y1, g1⟩ := A1.r1
        obtain ⟨y2, g2⟩ := A1.r2
        clear A1 hv
        go_wp2
        have T := three_set HA.out.r0 HA.out.r1 HA.out.r2 (.int .i64 (m.mo t)) (.int .i64 (m.held t)) (.slice va (stkTo m t m.H).length vc)
        refine bodyPost_ret (v := .tuple #[.agg #[.int .i64 (m.mo t), .int .i64 (m.held t), .slice va (stkTo m t m.H).length vc], .int .i64 0]) (by simp [results, Try.results22, go_sem, T.1, T.2.1, T.2.2]) rfl ⟨_, rfl, ?_, ?_⟩
        · exact ((HA.out.kp.setCell (.inr (by simp)) _).setCell (.inr (by simp)) _).setCell (.inr (by simp)) _
        · refine ownsRow_setCell_other (ownsRow_setCell_other (ownsRow_setCell_other (ownsRow_mono hown (by omega)) ?_ _) ?_ _) ?_ _
          all_goals exact fun q => by have : A + 1 ≤ w.heap.size := (hown.lt _ q).1; omega
end

/- The statements' desk: pick; a market that is opened. -/
section
open Go.RowKit Go.Sort

/-- which of n things a raw number speaks of -/
def pk (c : Int) (n : Nat) : Nat := if c < 0 then (-(c + 1)).toNat % n else c.toNat % n

theorem pk_lt (c : Int) {n : Nat} (hn : 1 ≤ n) : pk c n < n := by
  unfold pk
  split <;> exact Nat.mod_lt _ hn

def i64R (c : Int) : Prop := -9223372036854775808 ≤ c ∧ c ≤ 9223372036854775807

set_option maxHeartbeats 400000 in
theorem pick_any (c : Int) (n : Nat) (hc : i64R c) (hn : 1 ≤ n) (hn2 : n ≤ 10000000) (w : World) :
    Calls Try.prog 10 #[.int .i64 c, .int .i64 n] w fun e w' => e = .returned (.int .i64 (pk c n)) ∧ w' = w := by
  obtain ⟨h0, h1⟩ := hc
  by_cases hc : c < 0
  · obtain ⟨j, hj⟩ := Int.eq_ofNat_of_zero_le (by omega : 0 ≤ -(c + 1))
    have HP : Hid (pk c n = j % n) := hide (by rw [pk, if_pos hc]; congr 1; omega)
    have HJ := hide (show c + 1 = -(j : Int) by omega)
    clear hj
    go_enter Try.func10, Try.ntmps10
    go_wp2
    go_ret
    refine ⟨ret_int ?_, rfl⟩
    rw [HP.out, HJ.out, Int.neg_tmod, Int.neg_neg, Int.tmod_eq_emod_of_nonneg (by omega), Int.natCast_emod]
  · obtain ⟨j, rfl⟩ := Int.eq_ofNat_of_zero_le (by omega : 0 ≤ c)
    have HP : Hid (pk j n = j % n) := hide (by rw [pk, if_neg hc]; congr 1)
    go_enter Try.func10, Try.ntmps10
    go_wp2
    go_ret
    exact ⟨ret_int (by rw [HP.out, Int.natCast_emod]), rfl⟩

/-- the rates of a market that is opened -/
def picks (rs : List Int) : List Int := rs.map fun r => (pk r 101 : Int)
def openR (rs : List Int) : List Int := if (picks (rs.take 3)) = [] then [30] else picks (rs.take 3)

/-- a desk that is being laid: its rates -/
structure OpA (w : World) (xs : List Int) (W : World) : Prop where
  kp : Kep non w W
  c0 : Own W ⟨w.heap.size, 0, none⟩ (.pointer none)
  c1 : Own W ⟨w.heap.size, 1, none⟩ (.int .i64 4)
  c2 : Own W ⟨w.heap.size, 2, none⟩ (.int .i64 2)
  c4 : Own W ⟨w.heap.size, 4, none⟩ (.int .i64 0)
  c5 : Own W ⟨w.heap.size, 5, none⟩ (.slice none 0 0)
  v : ∃ a c, Own W ⟨w.heap.size, 3, none⟩ (.slice a xs.length c) ∧ W.ownsRow (w.heap.size + 1) 3 1 (.slice a xs.length c) xs.length (xs.map (.int .i64))

theorem OpA.start (w : World) : OpA w [] (w.alloc (.cells #[.pointer none, .int .i64 4, .int .i64 2, .slice none 0 0, .int .i64 0, .slice none 0 0] 29)) := by
  have h := heap_alloc_new w (.cells #[.pointer none, .int .i64 4, .int .i64 2, .slice none 0 0, .int .i64 0, .slice none 0 0] 29)
  have c := fun j => cell_of_row _ _ j _ _ _ h
  have f := fun j => frozen_of_row _ _ j _ _ h
  exact ⟨(Kep.refl _ _).alloc _, ⟨c 0, f 0⟩, ⟨c 1, f 1⟩, ⟨c 2, f 2⟩, ⟨c 4, f 4⟩, ⟨c 5, f 5⟩, none, 0, ⟨c 3, f 3⟩, World.ownsRow_nil _ _ _ _⟩

theorem OpA.later {w : World} {xs : List Int} {W W' : World} (S : OpA w xs W) (k : Kep non W W') : OpA w xs W' := by
  have n : ∀ b, ¬ non b := fun _ f => f
  obtain ⟨a, c, h1, h2⟩ := S.v
  exact ⟨S.kp.trans k, S.c0.kep k (n _), S.c1.kep k (n _), S.c2.kep k (n _), S.c4.kep k (n _), S.c5.kep k (n _), a, c, h1.kep k (n _), ownsRow_kep h2 k (fun _ _ => n _)⟩

theorem OpA.more {w : World} {xs : List Int} {W W0 w1 : World} {a : Option Addr} {c gg cap : Nat} (S : OpA w xs W) (k0 : Kep non W W0) (h1 : Own W ⟨w.heap.size, 3, none⟩ (.slice a xs.length c)) (h2 : W.ownsRow (w.heap.size + 1) 3 1 (.slice a xs.length c) xs.length (xs.map (.int .i64)))
    (hgrow : W0.grownBy w1 (Value.slice a xs.length c).ownBlock) (x : Int) (hown1 : w1.ownsRow (w.heap.size + 1) 3 1 (.slice (some ⟨gg, 0, none⟩) (xs.length + 1) cap) (xs.length + 1) (xs.map (.int .i64) ++ [.int .i64 x])) :
    OpA w (xs ++ [x]) (w1.setCell ⟨w.heap.size, 3, none⟩ (.slice (some ⟨gg, 0, none⟩) (xs.length + 1) cap)) := by
  have fresh : ∀ b, (Value.slice a xs.length c).ownBlock = some b → w.heap.size + 1 ≤ b := fun b hb => (h2.lt b hb).1
  have k1 : Kep (fun b => (Value.slice a xs.length c).ownBlock = some b) W w1 := (k0.none (S := fun b => (Value.slice a xs.length c).ownBlock = some b)).grown hgrow (fun b hb => .inl hb)
  have n0 : ¬ (Value.slice a xs.length c).ownBlock = some w.heap.size := fun hb => by have := fresh _ hb; omega
  have oc : ∀ {j : Nat} {u : Value}, j ≠ 3 → Own W ⟨w.heap.size, j, none⟩ u → Own (w1.setCell ⟨w.heap.size, 3, none⟩ (.slice (some ⟨gg, 0, none⟩) (xs.length + 1) cap)) ⟨w.heap.size, j, none⟩ u := fun hj h => (h.kep k1 n0).set_other (by intro q; injection q with _ q _; exact hj q) rfl rfl _
  refine ⟨(S.kp.trans' k1 (fun b hb => .inr (by have := fresh b hb; omega))).setCell (p := ⟨w.heap.size, 3, none⟩) (.inr (Nat.le_refl _)) _, oc (by decide) S.c0, oc (by decide) S.c1, oc (by decide) S.c2, oc (by decide) S.c4, oc (by decide) S.c5, some ⟨gg, 0, none⟩, cap, ?_, ?_⟩
  · simpa using (h1.kep k1 n0).set rfl (.slice (some ⟨gg, 0, none⟩) (xs.length + 1) cap)
  · have := ownsRow_setCell_other hown1 (a := ⟨w.heap.size, 3, none⟩) (by intro q; have := (hown1.lt _ q).1; simp only [] at this; omega) (.slice (some ⟨gg, 0, none⟩) (xs.length + 1) cap)
    simpa using this
end

end Go.Proofs.Ytcfoobhihhndjaa
