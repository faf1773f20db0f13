/- The law: brought. -/
import Derived.Test.YtcbfmolebomkdaaLa
namespace Go.Proofs.Ytcbfmolebomkdaa
open Go.RowKit Go.Sort

/-- what a call on both markets of a pair leaves -/
structure PairPost (w : World) (L : PL) (R : RL) (m' : Mk) (w' : World) : Prop where
  kp : Keeps (L.fp ++ R.fp) w w'
  rep : ∃ L' R', L'.x = L.x ∧ R'.c = R.c ∧ (∀ b, b ∈ L'.fp → b ∈ L.fp ∨ w.heap.size ≤ b) ∧ (∀ b, b ∈ R'.fp → b ∈ R.fp ∨ w.heap.size ≤ b) ∧ (∀ b, b ∈ L'.fp → b ∉ R'.fp) ∧ PRep w' L' m' ∧ RefRep w' R' m'

theorem pair_post {w W0 w1 w2 : World} {L : PL} {R : RL} {m m' : Mk} {N N' : Int} (k0 : Keeps [] w W0) (ok : m.Ok N) (ok' : m'.Ok N') (hp : PRep w L m) (hr : RefRep w R m) (P : PPost W0 L m' w1) (Q : RefPost w1 R m' w2) (dis : ∀ b, b ∈ L.fp → b ∉ R.fp) : PairPost w L R m' w2 := by
  obtain ⟨L', a1, a2, a3⟩ := P.rep
  obtain ⟨R', b1, b2, b3⟩ := Q.rep
  have s0 := k0.size
  have s1 := P.kp.size
  have ltL := hp.lt ok.T1
  have ltR := hr.lt ok
  have ltL' := a3.lt ok'.T1
  refine ⟨?_, L', R', a1, b1, fun b hb => ?_, fun b hb => ?_, fun b hb hb' => ?_, a3.keep Q.kp (fun b hb hb' => ?_), b3⟩
  · refine ((k0.mono (by simp)).trans' P.kp (fun i hi => .inl (by simp [hi]))).trans' Q.kp (fun i hi => .inl (by simp [hi]))
  · rcases a2 b hb with h | h
    · exact .inl h
    · exact .inr (by omega)
  · rcases b2 b hb with h | h
    · exact .inl h
    · exact .inr (by omega)
  · rcases a2 b hb with h | h
    · rcases b2 b hb' with h' | h'
      · exact dis b h h'
      · have := ltL b h; omega
    · rcases b2 b hb' with h' | h'
      · have := ltR b h'; omega
      · have := ltL' b hb; omega
  · rcases a2 b hb with h | h
    · exact dis b h hb'
    · have := ltR b hb'; omega

/-- a step of a script, as it lies in a struct -/
structure OpV where
  kd : Int
  M : Int
  A : Int
  B : Int
  C : Int
  D : Int
  E : Int
  rv : Value
  o0 : Int
  o1 : Int
  o2 : Int
  o3 : Int
  o4 : Int
  o5 : Int
  o6 : Int
  o7 : Int

def OpV.cells (o : OpV) : Array Value := #[.int .i64 o.kd, .int .i64 o.M, .int .i64 o.A, .int .i64 o.B, .int .i64 o.C, .int .i64 o.D, .int .i64 o.E, o.rv, .int .i64 o.o0, .int .i64 o.o1, .int .i64 o.o2, .int .i64 o.o3, .int .i64 o.o4, .int .i64 o.o5, .int .i64 o.o6, .int .i64 o.o7]

/-- what a step does to a market -/
def broughtM (m : Mk) (o : OpV) : Mk :=
  if o.kd = 2 then payM m o.A o.B else if o.kd = 3 then drawM m o.A o.B else if o.kd = 4 then bringM m o.A o.B o.C o.D else if o.kd = 5 then takeM m o.A o.B o.C o.D else if o.kd = 7 then shipM m o.A o.B o.C o.D o.E else tickM m

theorem broughtM_ok {m : Mk} {N : Int} (ok : m.Ok N) (bN : N + 200000 ≤ 1000000000000) (o : OpV) : (broughtM m o).Ok (N + 200000) := by
  unfold broughtM
  split
  · exact ok_mono (payM_ok ok _ _) (by omega) bN
  split
  · exact ok_mono (drawM_ok ok _ _) (by omega) bN
  split
  · exact bringM_ok ok bN _ _ _ _
  split
  · exact ok_mono (takeM_ok ok _ _ _ _) (by omega) bN
  split
  · exact ok_mono (shipM_ok ok _ _ _ _ _) (by omega) bN
  · exact tickM_ok ok bN

/-- two boxes laid, and calls behind them that keep them -/
theorem boxes {w w1 : World} {X Y : Array Value} {t1 t2 : TypeId} {S : List Nat} (k : Keeps S ((w.alloc (.cells X t1)).alloc (.cells Y t2)) w1) (hs : ∀ b, b ∈ S → b < w.heap.size) :
    (∀ j, w1.cell? ⟨w.heap.size, j, none⟩ = X[j]?) ∧ (∀ j, w1.cell? ⟨w.heap.size + 1, j, none⟩ = Y[j]?) := by
  have h0 := heap_alloc2_old w (.cells X t1) (.cells Y t2)
  have h1 := heap_alloc2_new w (.cells X t1) (.cells Y t2)
  have e0 := k.block w.heap.size (by simp; omega) (fun h => by have := hs _ h; omega)
  have e1 := k.block (w.heap.size + 1) (by simp) (fun h => by have := hs _ h; omega)
  exact ⟨fun j => cell_of_row _ _ j _ _ _ (e0.trans h0), fun j => cell_of_row _ _ j _ _ _ (e1.trans h1)⟩

set_option maxRecDepth 100000 in
set_option maxHeartbeats 1000000 in
theorem brought_2 (w : World) (L : PL) (R : RL) (m : Mk) (N : Int) (o : OpV) (ra : Option Addr) (rn rc : Nat) (hrv : o.rv = .slice ra rn rc) (hp : PRep w L m) (hr : RefRep w R m) (ok : m.Ok N) (bN : N ≤ 900000000000) (dis : ∀ b, b ∈ L.fp → b ∉ R.fp) (hk : o.kd = 2) :
    Calls Try.prog 11 #[.agg #[.pointer (some ⟨L.x, 0, none⟩), .pointer (some ⟨R.c, 0, none⟩)], .agg o.cells] w fun e w' => e = .returned (.bool true) ∧ PairPost w L R (broughtM m o) w' := by
  have HM : Hid (broughtM m o = payM m o.A o.B) := hide (by simp [broughtM, hk])
  have hok := hide (broughtM_ok ok (by omega) o)
  rw [HM.out] at hok
  obtain ⟨kd, M, A, B, C, D, E, rv, o0, o1, o2, o3, o4, o5, o6, o7⟩ := o
  simp only [] at hk hrv HM hok
  subst hk
  subst hrv
  have ltL := hp.lt ok.T1
  have HP := hide hp
  have HR := hide hr
  clear hp hr
  simp only [OpV.cells]
  go_enter Try.func11, Try.ntmps11
  go_wp2_with fail
  refine (progPay_any _ L m N A B (HP.out.keep (S := []) (((Keeps.refl _ _).alloc _).alloc _) (by simp)) ok).mono ?_
  rintro e w1 ⟨rfl, P⟩
  have bx := boxes P.kp ltL
  have p1 : w1.cell? ⟨w.heap.size, 1, none⟩ = some (.pointer (some ⟨R.c, 0, none⟩)) := bx.1 1
  have q2 : w1.cell? ⟨w.heap.size + 1, 2, none⟩ = some (.int .i64 A) := bx.2 2
  have q3 : w1.cell? ⟨w.heap.size + 1, 3, none⟩ = some (.int .i64 B) := bx.2 3
  clear bx
  have RR : Hid (RefRep w1 R m) := hide ((HR.out.keep (S := []) (((Keeps.refl _ _).alloc _).alloc _) (by simp)).keep P.kp (fun b hb hb' => dis b hb' hb))
  go_wp2_with fail
  refine (refPay_any _ R m N A B RR.out ok).mono ?_
  rintro e w2 ⟨rfl, Q⟩
  go_wp2
  go_ret
  refine ⟨by simp, ?_⟩
  rw [HM.out]
  exact pair_post (((Keeps.refl _ _).alloc _).alloc _) ok hok.out HP.out HR.out P Q dis

set_option maxRecDepth 100000 in
set_option maxHeartbeats 1000000 in
theorem brought_3 (w : World) (L : PL) (R : RL) (m : Mk) (N : Int) (o : OpV) (ra : Option Addr) (rn rc : Nat) (hrv : o.rv = .slice ra rn rc) (hp : PRep w L m) (hr : RefRep w R m) (ok : m.Ok N) (bN : N ≤ 900000000000) (dis : ∀ b, b ∈ L.fp → b ∉ R.fp) (hk : o.kd = 3) :
    Calls Try.prog 11 #[.agg #[.pointer (some ⟨L.x, 0, none⟩), .pointer (some ⟨R.c, 0, none⟩)], .agg o.cells] w fun e w' => e = .returned (.bool true) ∧ PairPost w L R (broughtM m o) w' := by
  have HM : Hid (broughtM m o = drawM m o.A o.B) := hide (by simp [broughtM, hk])
  have hok := hide (broughtM_ok ok (by omega) o)
  rw [HM.out] at hok
  obtain ⟨kd, M, A, B, C, D, E, rv, o0, o1, o2, o3, o4, o5, o6, o7⟩ := o
  simp only [] at hk hrv HM hok
  subst hk
  subst hrv
  have ltL := hp.lt ok.T1
  have HP := hide hp
  have HR := hide hr
  clear hp hr
  simp only [OpV.cells]
  go_enter Try.func11, Try.ntmps11
  go_wp2_with fail
  refine (progDraw_any _ L m N A B (HP.out.keep (S := []) (((Keeps.refl _ _).alloc _).alloc _) (by simp)) ok).mono ?_
  rintro e w1 ⟨rfl, P⟩
  have bx := boxes P.kp ltL
  have p1 : w1.cell? ⟨w.heap.size, 1, none⟩ = some (.pointer (some ⟨R.c, 0, none⟩)) := bx.1 1
  have q2 : w1.cell? ⟨w.heap.size + 1, 2, none⟩ = some (.int .i64 A) := bx.2 2
  have q3 : w1.cell? ⟨w.heap.size + 1, 3, none⟩ = some (.int .i64 B) := bx.2 3
  clear bx
  have RR : Hid (RefRep w1 R m) := hide ((HR.out.keep (S := []) (((Keeps.refl _ _).alloc _).alloc _) (by simp)).keep P.kp (fun b hb hb' => dis b hb' hb))
  go_wp2_with fail
  refine (refDraw_any _ R m N A B RR.out ok).mono ?_
  rintro e w2 ⟨rfl, Q⟩
  go_wp2
  go_ret
  refine ⟨by simp, ?_⟩
  rw [HM.out]
  exact pair_post (((Keeps.refl _ _).alloc _).alloc _) ok hok.out HP.out HR.out P Q dis

set_option maxRecDepth 100000 in
set_option maxHeartbeats 1000000 in
theorem brought_4 (w : World) (L : PL) (R : RL) (m : Mk) (N : Int) (o : OpV) (ra : Option Addr) (rn rc : Nat) (hrv : o.rv = .slice ra rn rc) (hp : PRep w L m) (hr : RefRep w R m) (ok : m.Ok N) (bN : N ≤ 900000000000) (dis : ∀ b, b ∈ L.fp → b ∉ R.fp) (hk : o.kd = 4) :
    Calls Try.prog 11 #[.agg #[.pointer (some ⟨L.x, 0, none⟩), .pointer (some ⟨R.c, 0, none⟩)], .agg o.cells] w fun e w' => e = .returned (.bool true) ∧ PairPost w L R (broughtM m o) w' := by
  have HM : Hid (broughtM m o = bringM m o.A o.B o.C o.D) := hide (by simp [broughtM, hk])
  have hok := hide (broughtM_ok ok (by omega) o)
  rw [HM.out] at hok
  obtain ⟨kd, M, A, B, C, D, E, rv, o0, o1, o2, o3, o4, o5, o6, o7⟩ := o
  simp only [] at hk hrv HM hok
  subst hk
  subst hrv
  have ltL := hp.lt ok.T1
  have HP := hide hp
  have HR := hide hr
  clear hp hr
  simp only [OpV.cells]
  go_enter Try.func11, Try.ntmps11
  go_wp2_with fail
  refine (progBring_any _ L m N A B C D (HP.out.keep (S := []) (((Keeps.refl _ _).alloc _).alloc _) (by simp)) ok).mono ?_
  rintro e w1 ⟨rfl, P⟩
  have bx := boxes P.kp ltL
  have p1 : w1.cell? ⟨w.heap.size, 1, none⟩ = some (.pointer (some ⟨R.c, 0, none⟩)) := bx.1 1
  have q2 : w1.cell? ⟨w.heap.size + 1, 2, none⟩ = some (.int .i64 A) := bx.2 2
  have q3 : w1.cell? ⟨w.heap.size + 1, 3, none⟩ = some (.int .i64 B) := bx.2 3
  have q4 : w1.cell? ⟨w.heap.size + 1, 4, none⟩ = some (.int .i64 C) := bx.2 4
  have q5 : w1.cell? ⟨w.heap.size + 1, 5, none⟩ = some (.int .i64 D) := bx.2 5
  clear bx
  have RR : Hid (RefRep w1 R m) := hide ((HR.out.keep (S := []) (((Keeps.refl _ _).alloc _).alloc _) (by simp)).keep P.kp (fun b hb hb' => dis b hb' hb))
  go_wp2_with fail
  refine (refBring_any _ R m N A B C D RR.out ok).mono ?_
  rintro e w2 ⟨rfl, Q⟩
  go_wp2
  go_ret
  refine ⟨by simp, ?_⟩
  rw [HM.out]
  exact pair_post (((Keeps.refl _ _).alloc _).alloc _) ok hok.out HP.out HR.out P Q dis

set_option maxRecDepth 100000 in
set_option maxHeartbeats 1000000 in
theorem brought_5 (w : World) (L : PL) (R : RL) (m : Mk) (N : Int) (o : OpV) (ra : Option Addr) (rn rc : Nat) (hrv : o.rv = .slice ra rn rc) (hp : PRep w L m) (hr : RefRep w R m) (ok : m.Ok N) (bN : N ≤ 900000000000) (dis : ∀ b, b ∈ L.fp → b ∉ R.fp) (hk : o.kd = 5) :
    Calls Try.prog 11 #[.agg #[.pointer (some ⟨L.x, 0, none⟩), .pointer (some ⟨R.c, 0, none⟩)], .agg o.cells] w fun e w' => e = .returned (.bool true) ∧ PairPost w L R (broughtM m o) w' := by
  have HM : Hid (broughtM m o = takeM m o.A o.B o.C o.D) := hide (by simp [broughtM, hk])
  have hok := hide (broughtM_ok ok (by omega) o)
  rw [HM.out] at hok
  obtain ⟨kd, M, A, B, C, D, E, rv, o0, o1, o2, o3, o4, o5, o6, o7⟩ := o
  simp only [] at hk hrv HM hok
  subst hk
  subst hrv
  have ltL := hp.lt ok.T1
  have HP := hide hp
  have HR := hide hr
  clear hp hr
  simp only [OpV.cells]
  go_enter Try.func11, Try.ntmps11
  go_wp2_with fail
  refine (progTake_any _ L m N A B C D (HP.out.keep (S := []) (((Keeps.refl _ _).alloc _).alloc _) (by simp)) ok).mono ?_
  rintro e w1 ⟨rfl, P⟩
  have bx := boxes P.kp ltL
  have p1 : w1.cell? ⟨w.heap.size, 1, none⟩ = some (.pointer (some ⟨R.c, 0, none⟩)) := bx.1 1
  have q2 : w1.cell? ⟨w.heap.size + 1, 2, none⟩ = some (.int .i64 A) := bx.2 2
  have q3 : w1.cell? ⟨w.heap.size + 1, 3, none⟩ = some (.int .i64 B) := bx.2 3
  have q4 : w1.cell? ⟨w.heap.size + 1, 4, none⟩ = some (.int .i64 C) := bx.2 4
  have q5 : w1.cell? ⟨w.heap.size + 1, 5, none⟩ = some (.int .i64 D) := bx.2 5
  clear bx
  have RR : Hid (RefRep w1 R m) := hide ((HR.out.keep (S := []) (((Keeps.refl _ _).alloc _).alloc _) (by simp)).keep P.kp (fun b hb hb' => dis b hb' hb))
  go_wp2_with fail
  refine (refTake_any _ R m N A B C D RR.out ok).mono ?_
  rintro e w2 ⟨rfl, Q⟩
  go_wp2
  go_ret
  refine ⟨by simp, ?_⟩
  rw [HM.out]
  exact pair_post (((Keeps.refl _ _).alloc _).alloc _) ok hok.out HP.out HR.out P Q dis

set_option maxRecDepth 100000 in
set_option maxHeartbeats 1000000 in
theorem brought_7 (w : World) (L : PL) (R : RL) (m : Mk) (N : Int) (o : OpV) (ra : Option Addr) (rn rc : Nat) (hrv : o.rv = .slice ra rn rc) (hp : PRep w L m) (hr : RefRep w R m) (ok : m.Ok N) (bN : N ≤ 900000000000) (dis : ∀ b, b ∈ L.fp → b ∉ R.fp) (hk : o.kd = 7) :
    Calls Try.prog 11 #[.agg #[.pointer (some ⟨L.x, 0, none⟩), .pointer (some ⟨R.c, 0, none⟩)], .agg o.cells] w fun e w' => e = .returned (.bool true) ∧ PairPost w L R (broughtM m o) w' := by
  have HM : Hid (broughtM m o = shipM m o.A o.B o.C o.D o.E) := hide (by simp [broughtM, hk])
  have hok := hide (broughtM_ok ok (by omega) o)
  rw [HM.out] at hok
  obtain ⟨kd, M, A, B, C, D, E, rv, o0, o1, o2, o3, o4, o5, o6, o7⟩ := o
  simp only [] at hk hrv HM hok
  subst hk
  subst hrv
  have ltL := hp.lt ok.T1
  have HP := hide hp
  have HR := hide hr
  clear hp hr
  simp only [OpV.cells]
  go_enter Try.func11, Try.ntmps11
  go_wp2_with fail
  refine (progShip_any _ L m N A B C D E (HP.out.keep (S := []) (((Keeps.refl _ _).alloc _).alloc _) (by simp)) ok).mono ?_
  rintro e w1 ⟨rfl, P⟩
  have bx := boxes P.kp ltL
  have p1 : w1.cell? ⟨w.heap.size, 1, none⟩ = some (.pointer (some ⟨R.c, 0, none⟩)) := bx.1 1
  have q2 : w1.cell? ⟨w.heap.size + 1, 2, none⟩ = some (.int .i64 A) := bx.2 2
  have q3 : w1.cell? ⟨w.heap.size + 1, 3, none⟩ = some (.int .i64 B) := bx.2 3
  have q4 : w1.cell? ⟨w.heap.size + 1, 4, none⟩ = some (.int .i64 C) := bx.2 4
  have q5 : w1.cell? ⟨w.heap.size + 1, 5, none⟩ = some (.int .i64 D) := bx.2 5
  have q6 : w1.cell? ⟨w.heap.size + 1, 6, none⟩ = some (.int .i64 E) := bx.2 6
  clear bx
  have RR : Hid (RefRep w1 R m) := hide ((HR.out.keep (S := []) (((Keeps.refl _ _).alloc _).alloc _) (by simp)).keep P.kp (fun b hb hb' => dis b hb' hb))
  go_wp2_with fail
  refine (refShip_any _ R m N A B C D E RR.out ok).mono ?_
  rintro e w2 ⟨rfl, Q⟩
  go_wp2
  go_ret
  refine ⟨by simp, ?_⟩
  rw [HM.out]
  exact pair_post (((Keeps.refl _ _).alloc _).alloc _) ok hok.out HP.out HR.out P Q dis

set_option maxRecDepth 100000 in
set_option maxHeartbeats 1000000 in
theorem brought_8 (w : World) (L : PL) (R : RL) (m : Mk) (N : Int) (o : OpV) (ra : Option Addr) (rn rc : Nat) (hrv : o.rv = .slice ra rn rc) (hp : PRep w L m) (hr : RefRep w R m) (ok : m.Ok N) (bN : N ≤ 900000000000) (dis : ∀ b, b ∈ L.fp → b ∉ R.fp) (hk : o.kd = 8) :
    Calls Try.prog 11 #[.agg #[.pointer (some ⟨L.x, 0, none⟩), .pointer (some ⟨R.c, 0, none⟩)], .agg o.cells] w fun e w' => e = .returned (.bool true) ∧ PairPost w L R (broughtM m o) w' := by
  have HM : Hid (broughtM m o = tickM m ) := hide (by simp [broughtM, hk])
  have hok := hide (broughtM_ok ok (by omega) o)
  rw [HM.out] at hok
  obtain ⟨kd, M, A, B, C, D, E, rv, o0, o1, o2, o3, o4, o5, o6, o7⟩ := o
  simp only [] at hk hrv HM hok
  subst hk
  subst hrv
  have ltL := hp.lt ok.T1
  have HP := hide hp
  have HR := hide hr
  clear hp hr
  simp only [OpV.cells]
  go_enter Try.func11, Try.ntmps11
  go_wp2_with fail
  refine (progTick_any _ L m N  (HP.out.keep (S := []) (((Keeps.refl _ _).alloc _).alloc _) (by simp)) ok (by omega)).mono ?_
  rintro e w1 ⟨rfl, P⟩
  have bx := boxes P.kp ltL
  have p1 : w1.cell? ⟨w.heap.size, 1, none⟩ = some (.pointer (some ⟨R.c, 0, none⟩)) := bx.1 1

  clear bx
  have RR : Hid (RefRep w1 R m) := hide ((HR.out.keep (S := []) (((Keeps.refl _ _).alloc _).alloc _) (by simp)).keep P.kp (fun b hb hb' => dis b hb' hb))
  go_wp2_with fail
  refine (refTick_any _ R m N  RR.out ok (by omega)).mono ?_
  rintro e w2 ⟨rfl, Q⟩
  go_wp2
  go_ret
  refine ⟨by simp, ?_⟩
  rw [HM.out]
  exact pair_post (((Keeps.refl _ _).alloc _).alloc _) ok hok.out HP.out HR.out P Q dis

theorem brought_any (w : World) (L : PL) (R : RL) (m : Mk) (N : Int) (o : OpV) (ra : Option Addr) (rn rc : Nat) (hrv : o.rv = .slice ra rn rc) (hp : PRep w L m) (hr : RefRep w R m) (ok : m.Ok N) (bN : N ≤ 900000000000) (dis : ∀ b, b ∈ L.fp → b ∉ R.fp)
    (hk : o.kd = 2 ∨ o.kd = 3 ∨ o.kd = 4 ∨ o.kd = 5 ∨ o.kd = 7 ∨ o.kd = 8) :
    Calls Try.prog 11 #[.agg #[.pointer (some ⟨L.x, 0, none⟩), .pointer (some ⟨R.c, 0, none⟩)], .agg o.cells] w fun e w' => e = .returned (.bool true) ∧ PairPost w L R (broughtM m o) w' := by
  rcases hk with h | h | h | h | h | h
  · exact brought_2 w L R m N o ra rn rc hrv hp hr ok bN dis h
  · exact brought_3 w L R m N o ra rn rc hrv hp hr ok bN dis h
  · exact brought_4 w L R m N o ra rn rc hrv hp hr ok bN dis h
  · exact brought_5 w L R m N o ra rn rc hrv hp hr ok bN dis h
  · exact brought_7 w L R m N o ra rn rc hrv hp hr ok bN dis h
  · exact brought_8 w L R m N o ra rn rc hrv hp hr ok bN dis h

end Go.Proofs.Ytcbfmolebomkdaa
