/- The program's market: the small functions of orders. -/
import Derived.StillTailTactics
import Derived.Test.YtcfoobhihhndjaaB10
import Derived.Test.YtcfoobhihhndjaaB11
namespace Go.Proofs.Ytcfoobhihhndjaa

section
open Go.RowKit Go.Sort

theorem first_none (q c : Nat) (w : World) (a : Option Addr) (h1 : w.cell? ⟨q, 1, none⟩ = some (.slice a 0 c)) :
    Calls Try.prog 71 #[.pointer (some ⟨q, 0, none⟩)] w fun e w' => e = .returned (.tuple #[.pointer none, .bool false]) ∧ w' = w := by
  go_enter Try.func71, Try.ntmps71
  go_wp2
  go_ret2
  exact ⟨rfl, rfl⟩

theorem first_some (q b n c o : Nat) (w : World) (hn : 1 ≤ n) (h1 : w.cell? ⟨q, 1, none⟩ = some (.slice (some ⟨b, 0, none⟩) n c)) (h2 : w.cell? ⟨b, 0, none⟩ = some (.pointer (some ⟨o, 0, none⟩))) :
    Calls Try.prog 71 #[.pointer (some ⟨q, 0, none⟩)] w fun e w' => e = .returned (.tuple #[.pointer (some ⟨o, 0, none⟩), .bool true]) ∧ w' = w := by
  have h0 : ((n : Int) == 0) = false := beq_eq_false_iff_ne.2 (by omega)
  have h3 : (0 : Int) < (n : Int) := by omega
  go_enter Try.func71, Try.ntmps71
  go_wp2
  go_ret2
  exact ⟨rfl, rfl⟩

theorem other_buy (w : World) : Calls Try.prog 70 #[.int .i64 0] w fun e w' => e = .returned (.int .i64 1) ∧ w' = w := by
  go_enter Try.func70, Try.ntmps70
  go_wp2
  go_ret
  exact ⟨rfl, rfl⟩
theorem other_sell (w : World) : Calls Try.prog 70 #[.int .i64 1] w fun e w' => e = .returned (.int .i64 0) ∧ w' = w := by
  go_enter Try.func70, Try.ntmps70
  go_wp2
  go_ret
  exact ⟨rfl, rfl⟩

/-- the fee for an amount in a hall -/
def Mt.fee (m : Mt) (h : Nat) (a : Int) : Int := a * m.rt h / 10000

theorem fee_any (w : World) (L : PL) (m : Mt) (N : Int) (R : PRep w L m) (ok : m.Ok N) (h : Nat) (a : Int) (hh : h < m.H) (ha : 0 ≤ a) (ha2 : a ≤ 1000000000) :
    Calls Try.prog 91 #[.pointer (some ⟨L.x, 0, none⟩), .int .i64 h, .int .i64 a] w fun e w' => e = .returned (.int .i64 (m.fee h a)) ∧ w' = w := by
  have c1 := R.cR.cell
  have cr := R.rt h hh
  have hh' : (h : Int) < (m.H : Int) := by omega
  have br := ok.rt h hh
  have bm := mul_le' ha ha2 br.1 br.2
  have e : Hid (a * m.rt h / 10000 = m.fee h a) := hide rfl
  clear R ok
  generalize m.rt h = r at *
  go_enter Try.func91, Try.ntmps91
  go_wp2
  go_ret
  exact ⟨ret_int e.out, rfl⟩

def pfits (a b : Od) : Bool := if a.s = 0 then decide (b.p ≤ a.p) else decide (a.p ≤ b.p)

theorem pricesFit_any (w : World) (x y : Nat) (a b : Od) (ha : OdAt w x a) (hb : OdAt w y b) :
    Calls Try.prog 72 #[.pointer (some ⟨x, 0, none⟩), .pointer (some ⟨y, 0, none⟩)] w fun e w' => e = .returned (.bool (pfits a b)) ∧ ∃ n, w' = w.drewN n := by
  have a4 := (ha 4 _ rfl).cell
  have a5 := (ha 5 _ rfl).cell
  have b5 := (hb 5 _ rfl).cell
  have HE : Hid (pfits a b = if a.s = 0 then decide (b.p ≤ a.p) else decide (a.p ≤ b.p)) := hide rfl
  clear ha hb
  by_cases h : a.s = 0
  · go_enter Try.func72, Try.ntmps72
    go_wp2
    go_quiet (fail)
    go_wp2
    go_ret
    exact ⟨by rw [HE.out, if_pos h]; simp, _, rfl⟩
  · go_enter Try.func72, Try.ntmps72
    go_wp2
    go_quiet (fail)
    go_wp2
    go_ret
    exact ⟨by rw [HE.out, if_neg h]; simp, _, rfl⟩

/-- who comes first on a side -/
def aheadB (s : Nat) (a b : Od) : Bool := if s = 0 then decide (b.p < a.p ∨ a.p = b.p ∧ a.id < b.id) else decide (a.p < b.p ∨ a.p = b.p ∧ a.id < b.id)

set_option maxHeartbeats 400000 in
theorem aheadBuy_any (w : World) (x y : Nat) (a b : Od) (ha : OdAt w x a) (hb : OdAt w y b) :
    Calls Try.prog 78 #[.pointer (some ⟨x, 0, none⟩), .pointer (some ⟨y, 0, none⟩)] w fun e w' => e = .returned (.bool (aheadB 0 a b)) ∧ ∃ n, w' = w.drewN n := by
  have a0 := (ha 0 _ rfl).cell
  have a5 := (ha 5 _ rfl).cell
  have b0 := (hb 0 _ rfl).cell
  have b5 := (hb 5 _ rfl).cell
  clear ha hb
  by_cases h1 : b.p < a.p
  · have h1' : decide (b.p < a.p) = true := decide_eq_true h1
    have e : Hid (aheadB 0 a b = true) := hide (by simp [aheadB, h1])
    go_enter Try.func78, Try.ntmps78
    go_wp2
    go_quiet (fail)
    go_wp2
    go_ret
    exact ⟨by rw [e.out]; rfl, _, rfl⟩
  · have h1' := decide_eq_false h1
    by_cases h2 : a.p = b.p
    · have h2' : (a.p == b.p) = true := beq_iff_eq.2 h2
      by_cases h3 : a.id < b.id
      · have h3' := decide_eq_true h3
        have e : Hid (aheadB 0 a b = true) := hide (by simp [aheadB, h2, h3])
        clear h2 h1
        go_enter Try.func78, Try.ntmps78
        go_wp2
        go_quiet (fail)
        go_wp2
        go_ret
        exact ⟨by rw [e.out]; rfl, _, rfl⟩
      · have h3' := decide_eq_false h3
        have e : Hid (aheadB 0 a b = false) := hide (by simp [aheadB, h2, h3])
        clear h2 h1
        go_enter Try.func78, Try.ntmps78
        go_wp2
        go_quiet (fail)
        go_wp2
        go_ret
        exact ⟨by rw [e.out]; rfl, _, rfl⟩
    · have h2' : (a.p == b.p) = false := beq_eq_false_iff_ne.2 h2
      have e : Hid (aheadB 0 a b = false) := hide (by simp [aheadB, h1, h2])
      clear h1 h2
      go_enter Try.func78, Try.ntmps78
      go_wp2
      go_quiet (fail)
      go_wp2
      go_ret
      exact ⟨by rw [e.out]; rfl, _, rfl⟩

set_option maxHeartbeats 400000 in
theorem aheadSell_any (w : World) (x y : Nat) (a b : Od) (ha : OdAt w x a) (hb : OdAt w y b) :
    Calls Try.prog 79 #[.pointer (some ⟨x, 0, none⟩), .pointer (some ⟨y, 0, none⟩)] w fun e w' => e = .returned (.bool (aheadB 1 a b)) ∧ ∃ n, w' = w.drewN n := by
  have a0 := (ha 0 _ rfl).cell
  have a5 := (ha 5 _ rfl).cell
  have b0 := (hb 0 _ rfl).cell
  have b5 := (hb 5 _ rfl).cell
  clear ha hb
  by_cases h1 : a.p < b.p
  · have h1' : decide (a.p < b.p) = true := decide_eq_true h1
    have e : Hid (aheadB 1 a b = true) := hide (by simp [aheadB, h1])
    go_enter Try.func79, Try.ntmps79
    go_wp2
    go_quiet (fail)
    go_wp2
    go_ret
    exact ⟨by rw [e.out]; rfl, _, rfl⟩
  · have h1' := decide_eq_false h1
    by_cases h2 : a.p = b.p
    · have h2' : (a.p == b.p) = true := beq_iff_eq.2 h2
      by_cases h3 : a.id < b.id
      · have h3' := decide_eq_true h3
        have e : Hid (aheadB 1 a b = true) := hide (by simp [aheadB, h2, h3])
        clear h2 h1
        go_enter Try.func79, Try.ntmps79
        go_wp2
        go_quiet (fail)
        go_wp2
        go_ret
        exact ⟨by rw [e.out]; rfl, _, rfl⟩
      · have h3' := decide_eq_false h3
        have e : Hid (aheadB 1 a b = false) := hide (by simp [aheadB, h2, h3])
        clear h2 h1
        go_enter Try.func79, Try.ntmps79
        go_wp2
        go_quiet (fail)
        go_wp2
        go_ret
        exact ⟨by rw [e.out]; rfl, _, rfl⟩
    · have h2' : (a.p == b.p) = false := beq_eq_false_iff_ne.2 h2
      have e : Hid (aheadB 1 a b = false) := hide (by simp [aheadB, h1, h2])
      clear h1 h2
      go_enter Try.func79, Try.ntmps79
      go_wp2
      go_quiet (fail)
      go_wp2
      go_ret
      exact ⟨by rw [e.out]; rfl, _, rfl⟩
end

/- The program's market: numbersFit, cost, checkBook, House. -/
section
open Go.RowKit Go.Sort

def Od.agg (o : Od) : Value := .agg #[.int .i64 o.id, .int .i64 o.t, .int .i64 o.h, .int .i64 o.g, .int .i64 o.s, .int .i64 o.p, .int .i64 o.q, .int .i64 o.w]

def Od.fit (o : Od) : Bool := inR o.s 0 1 && inR o.w 0 3 && inR o.p 1 100000 && inR o.q 1 10000

set_option maxHeartbeats 4000000 in
set_option maxRecDepth 100000 in
theorem fit_any (w : World) (o : Od) :
    Calls Try.prog 53 #[o.agg] w fun e w' => e = .returned (.bool o.fit) ∧ Below w.heap.size w w' := by
  obtain ⟨r1, h1⟩ : ∃ r1, inR o.s 0 1 = r1 := ⟨_, rfl⟩
  obtain ⟨r2, h2⟩ : ∃ r2, inR o.w 0 3 = r2 := ⟨_, rfl⟩
  obtain ⟨r3, h3⟩ : ∃ r3, inR o.p 1 100000 = r3 := ⟨_, rfl⟩
  obtain ⟨r4, h4⟩ : ∃ r4, inR o.q 1 10000 = r4 := ⟨_, rfl⟩
  have e : Hid (o.fit = (r1 && r2 && r3 && r4)) := hide (by unfold Od.fit; rw [h1, h2, h3, h4])
  have H1 := hide h1
  have H2 := hide h2
  have H3 := hide h3
  have H4 := hide h4
  clear h1 h2 h3 h4
  unfold Od.agg
  generalize o.fit = r at *
  cases r1 with
  | false =>
    go_enter Try.func53, Try.ntmps53
    go_wp2_with (go_at_call 34; refine (within_b _ _ _ _).mono ?_; (first | rw [H1.out]); rintro e w' ⟨rfl, rfl⟩)
    go_ret
    exact ⟨by rw [e.out]; rfl, (Below.refl _ _).alloc (Nat.le_refl _) _⟩
  | true =>
    cases r2 with
    | false =>
      go_enter Try.func53, Try.ntmps53
      go_wp2_with (go_at_call 34; refine (within_b _ _ _ _).mono ?_; (first | rw [H1.out] | rw [H2.out]); rintro e w' ⟨rfl, rfl⟩)
      go_ret
      exact ⟨by rw [e.out]; rfl, (Below.refl _ _).alloc (Nat.le_refl _) _⟩
    | true =>
      cases r3 with
      | false =>
        go_enter Try.func53, Try.ntmps53
        go_wp2_with (go_at_call 34; refine (within_b _ _ _ _).mono ?_; (first | rw [H1.out] | rw [H2.out] | rw [H3.out]); rintro e w' ⟨rfl, rfl⟩)
        go_ret
        exact ⟨by rw [e.out]; rfl, (Below.refl _ _).alloc (Nat.le_refl _) _⟩
      | true =>
        cases r4 with
        | false =>
          go_enter Try.func53, Try.ntmps53
          go_wp2_with (go_at_call 34; refine (within_b _ _ _ _).mono ?_; (first | rw [H1.out] | rw [H2.out] | rw [H3.out] | rw [H4.out]); rintro e w' ⟨rfl, rfl⟩)
          go_ret
          exact ⟨by rw [e.out]; rfl, (Below.refl _ _).alloc (Nat.le_refl _) _⟩
        | true =>
          go_enter Try.func53, Try.ntmps53
          go_wp2_with (go_at_call 34; refine (within_b _ _ _ _).mono ?_; (first | rw [H1.out] | rw [H2.out] | rw [H3.out] | rw [H4.out]); rintro e w' ⟨rfl, rfl⟩)
          go_ret
          exact ⟨by rw [e.out]; rfl, (Below.refl _ _).alloc (Nat.le_refl _) _⟩

def Mt.costOf (m : Mt) (o : Od) : Int := o.p * o.q + m.fee o.h.toNat (o.p * o.q)

set_option maxHeartbeats 1000000 in
set_option maxRecDepth 100000 in
theorem cost_any (w : World) (L : PL) (m : Mt) (N : Int) (R : PRep w L m) (ok : m.Ok N) (o : Od) (h : Nat) (eh : o.h = h) (hh : h < m.H) (hp : 0 ≤ o.p ∧ o.p ≤ 100000) (hq : 0 ≤ o.q ∧ o.q ≤ 10000) (hf : 0 ≤ m.fee h (o.p * o.q) ∧ m.fee h (o.p * o.q) ≤ 1000000000) :
    Calls Try.prog 67 #[.pointer (some ⟨L.x, 0, none⟩), o.agg] w fun e w' => e = .returned (.int .i64 (m.costOf o)) ∧ Below w.heap.size w w' := by
  have hb := mul_le' (a := o.p) (b := o.q) (A := 100000) (B := 10000) hp.1 hp.2 hq.1 hq.2
  obtain ⟨hb0, hb1⟩ := hb
  have HF := hide (fun ob => fee_any _ L m N (R.later ((Kep.refl non w).alloc ob)) ok h (o.p * o.q) hh hb0 (by omega))
  have e : Hid (m.costOf o = o.p * o.q + m.fee h (o.p * o.q)) := hide (by unfold Mt.costOf; rw [eh]; rfl)
  have w1 : IntKind.i64.wrap (o.p * o.q) = o.p * o.q := by rw [IntKind.wrap_i64]; omega
  have w2 : IntKind.i64.wrap (o.p * o.q + m.fee h (o.p * o.q)) = o.p * o.q + m.fee h (o.p * o.q) := by rw [IntKind.wrap_i64]; omega
  unfold Od.agg
  rw [eh]
  generalize m.costOf o = r at *
  generalize m.fee h (o.p * o.q) = ff at *
  clear hf
  go_enter Try.func67, Try.ntmps67
  go_wp2_with (go_at_call 91; refine (HF.out _).mono ?_; rintro e w' ⟨rfl, rfl⟩)
  go_ret
  exact ⟨by rw [e.out]; rfl, (Below.refl _ _).alloc (Nat.le_refl _) _⟩

def bookE (m : Mt) (h g : Int) : Int := if okI m.H h then if okI m.G g then 0 else 4 else 3

theorem checkBook_any (w : World) (L : PL) (m : Mt) (N h g : Int) (R : PRep w L m) (ok : m.Ok N) :
    Calls Try.prog 50 #[.pointer (some ⟨L.x, 0, none⟩), .int .i64 h, .int .i64 g] w fun e w' => e = .returned (.int .i64 (bookE m h g)) ∧ w' = w := by
  have c0 := R.cG.cell
  have c1 := R.cR.cell
  have bG : m.G ≤ 8 := by have := ok.G4; omega
  have bH : m.H ≤ 8 := by have := ok.H4; omega
  go_enter Try.func50, Try.ntmps50
  go_wp2_with (first | (go_at_call 32; refine (hasHall_b _ _ _ _ _ _ bH c1).mono ?_; rintro e w' ⟨rfl, rfl⟩) | (go_at_call 33; refine (hasGood_b _ _ _ _ bG c0).mono ?_; rintro e w' ⟨rfl, rfl⟩))
  all_goals go_ret
  all_goals refine ⟨ret_int ?_, rfl⟩
  all_goals clear c0 c1 R
  all_goals unfold bookE
  all_goals (repeat' split)
  all_goals first | rfl | (exfalso; simp_all [inB]; done) | (exfalso; simp_all [inB]; omega)

theorem house_any (w : World) (L : PL) (m : Mt) (R : PRep w L m) :
    Calls Try.prog 18 #[.pointer (some ⟨L.x, 0, none⟩)] w fun e w' => e = .returned (.int .i64 m.ho) ∧ w' = w := by
  have c6 := R.cH.cell
  go_enter Try.func18, Try.ntmps18
  go_wp2
  go_ret
  exact ⟨rfl, rfl⟩
end

/- mercatkeep: order. -/
section
open Go.RowKit Go.Sort

/-- a raw step: kind, trader, hall, good, price, pieces -/
structure Stp where
  k : Int
  t : Int
  h : Int
  g : Int
  p : Int
  q : Int

def Stp.agg (s : Stp) : Value := .agg #[.int .i64 s.k, .int .i64 s.t, .int .i64 s.h, .int .i64 s.g, .int .i64 s.p, .int .i64 s.q]
def Stp.ok (s : Stp) : Prop := i64R s.k ∧ i64R s.t ∧ i64R s.h ∧ i64R s.g ∧ i64R s.p ∧ i64R s.q

def orderOf (s : Stp) (R : Nat) : Od := ⟨0, pk s.t 4, pk s.h R, pk s.g 2, pk s.p 2, 80 + pk (s.p.tdiv 2) 40, 1 + pk s.q 300, pk (s.q.tdiv 300) 4⟩

theorem i64R_tdiv {c n : Int} (h : i64R c) (hn : 2 ≤ n) : i64R (c.tdiv n) := by
  obtain ⟨h0, h1⟩ := h
  by_cases hc : 0 ≤ c
  · have a := Int.tdiv_nonneg hc (show 0 ≤ n by omega)
    have b : c.tdiv n ≤ c := Int.tdiv_le_self n hc
    exact ⟨by omega, by omega⟩
  · have e : c.tdiv n = -((-c).tdiv n) := by rw [Int.neg_tdiv, Int.neg_neg]
    have a := Int.tdiv_nonneg (show 0 ≤ -c by omega) (show 0 ≤ n by omega)
    have b : (-c).tdiv n ≤ -c := Int.tdiv_le_self n (by omega)
    exact ⟨by omega, by omega⟩

theorem pickI (c n : Int) (w : World) (hc : i64R c) (h1 : 1 ≤ n) (h2 : n ≤ 10000000) : Calls Try.prog 10 #[.int .i64 c, .int .i64 n] w fun e w' => e = .returned (.int .i64 (pk c n.toNat)) ∧ w' = w := by
  obtain ⟨k, rfl⟩ := Int.eq_ofNat_of_zero_le (show 0 ≤ n by omega)
  exact pick_any c k hc (by omega) (by omega) w

theorem eight_put {w : World} {b : Nat} {u0 u1 u2 u3 u4 u5 u6 u7 : Value} (h0 : Own w ⟨b, 0, none⟩ u0) (h1 : Own w ⟨b, 1, none⟩ u1) (h2 : Own w ⟨b, 2, none⟩ u2) (h3 : Own w ⟨b, 3, none⟩ u3) (h4 : Own w ⟨b, 4, none⟩ u4) (h5 : Own w ⟨b, 5, none⟩ u5) (h6 : Own w ⟨b, 6, none⟩ u6) (h7 : Own w ⟨b, 7, none⟩ u7) (v0 v1 v2 v3 v4 v5 v6 v7 : Value) :
    ((((((((w.setCell ⟨b, 0, none⟩ v0).setCell ⟨b, 1, none⟩ v1).setCell ⟨b, 2, none⟩ v2).setCell ⟨b, 3, none⟩ v3).setCell ⟨b, 4, none⟩ v4).setCell ⟨b, 5, none⟩ v5).setCell ⟨b, 6, none⟩ v6).setCell ⟨b, 7, none⟩ v7).cell? ⟨b, 0, none⟩ = some v0 ∧ ((((((((w.setCell ⟨b, 0, none⟩ v0).setCell ⟨b, 1, none⟩ v1).setCell ⟨b, 2, none⟩ v2).setCell ⟨b, 3, none⟩ v3).setCell ⟨b, 4, none⟩ v4).setCell ⟨b, 5, none⟩ v5).setCell ⟨b, 6, none⟩ v6).setCell ⟨b, 7, none⟩ v7).cell? ⟨b, 1, none⟩ = some v1 ∧ ((((((((w.setCell ⟨b, 0, none⟩ v0).setCell ⟨b, 1, none⟩ v1).setCell ⟨b, 2, none⟩ v2).setCell ⟨b, 3, none⟩ v3).setCell ⟨b, 4, none⟩ v4).setCell ⟨b, 5, none⟩ v5).setCell ⟨b, 6, none⟩ v6).setCell ⟨b, 7, none⟩ v7).cell? ⟨b, 2, none⟩ = some v2 ∧ ((((((((w.setCell ⟨b, 0, none⟩ v0).setCell ⟨b, 1, none⟩ v1).setCell ⟨b, 2, none⟩ v2).setCell ⟨b, 3, none⟩ v3).setCell ⟨b, 4, none⟩ v4).setCell ⟨b, 5, none⟩ v5).setCell ⟨b, 6, none⟩ v6).setCell ⟨b, 7, none⟩ v7).cell? ⟨b, 3, none⟩ = some v3 ∧ ((((((((w.setCell ⟨b, 0, none⟩ v0).setCell ⟨b, 1, none⟩ v1).setCell ⟨b, 2, none⟩ v2).setCell ⟨b, 3, none⟩ v3).setCell ⟨b, 4, none⟩ v4).setCell ⟨b, 5, none⟩ v5).setCell ⟨b, 6, none⟩ v6).setCell ⟨b, 7, none⟩ v7).cell? ⟨b, 4, none⟩ = some v4 ∧ ((((((((w.setCell ⟨b, 0, none⟩ v0).setCell ⟨b, 1, none⟩ v1).setCell ⟨b, 2, none⟩ v2).setCell ⟨b, 3, none⟩ v3).setCell ⟨b, 4, none⟩ v4).setCell ⟨b, 5, none⟩ v5).setCell ⟨b, 6, none⟩ v6).setCell ⟨b, 7, none⟩ v7).cell? ⟨b, 5, none⟩ = some v5 ∧ ((((((((w.setCell ⟨b, 0, none⟩ v0).setCell ⟨b, 1, none⟩ v1).setCell ⟨b, 2, none⟩ v2).setCell ⟨b, 3, none⟩ v3).setCell ⟨b, 4, none⟩ v4).setCell ⟨b, 5, none⟩ v5).setCell ⟨b, 6, none⟩ v6).setCell ⟨b, 7, none⟩ v7).cell? ⟨b, 6, none⟩ = some v6 ∧ ((((((((w.setCell ⟨b, 0, none⟩ v0).setCell ⟨b, 1, none⟩ v1).setCell ⟨b, 2, none⟩ v2).setCell ⟨b, 3, none⟩ v3).setCell ⟨b, 4, none⟩ v4).setCell ⟨b, 5, none⟩ v5).setCell ⟨b, 6, none⟩ v6).setCell ⟨b, 7, none⟩ v7).cell? ⟨b, 7, none⟩ = some v7 := by
  have ne : ∀ i j : Nat, i ≠ j → (⟨b, i, none⟩ : Addr) ≠ ⟨b, j, none⟩ := fun i j hj q => by injection q with _ q _; exact hj q
  have o : ∀ {w : World} {i : Nat} {x : Value} (j : Nat) (y : Value), i ≠ j → Own w ⟨b, i, none⟩ x → Own (w.setCell ⟨b, j, none⟩ y) ⟨b, i, none⟩ x := fun j y hij hx => hx.set_other (ne _ _ hij) rfl rfl y
  exact ⟨(o 7 v7 (by decide) (o 6 v6 (by decide) (o 5 v5 (by decide) (o 4 v4 (by decide) (o 3 v3 (by decide) (o 2 v2 (by decide) (o 1 v1 (by decide) (h0.set rfl v0)))))))).cell, (o 7 v7 (by decide) (o 6 v6 (by decide) (o 5 v5 (by decide) (o 4 v4 (by decide) (o 3 v3 (by decide) (o 2 v2 (by decide) ((o 0 v0 (by decide) h1).set rfl v1))))))).cell, (o 7 v7 (by decide) (o 6 v6 (by decide) (o 5 v5 (by decide) (o 4 v4 (by decide) (o 3 v3 (by decide) ((o 1 v1 (by decide) (o 0 v0 (by decide) h2)).set rfl v2)))))).cell, (o 7 v7 (by decide) (o 6 v6 (by decide) (o 5 v5 (by decide) (o 4 v4 (by decide) ((o 2 v2 (by decide) (o 1 v1 (by decide) (o 0 v0 (by decide) h3))).set rfl v3))))).cell, (o 7 v7 (by decide) (o 6 v6 (by decide) (o 5 v5 (by decide) ((o 3 v3 (by decide) (o 2 v2 (by decide) (o 1 v1 (by decide) (o 0 v0 (by decide) h4)))).set rfl v4)))).cell, (o 7 v7 (by decide) (o 6 v6 (by decide) ((o 4 v4 (by decide) (o 3 v3 (by decide) (o 2 v2 (by decide) (o 1 v1 (by decide) (o 0 v0 (by decide) h5))))).set rfl v5))).cell, (o 7 v7 (by decide) ((o 5 v5 (by decide) (o 4 v4 (by decide) (o 3 v3 (by decide) (o 2 v2 (by decide) (o 1 v1 (by decide) (o 0 v0 (by decide) h6)))))).set rfl v6)).cell, ((o 6 v6 (by decide) (o 5 v5 (by decide) (o 4 v4 (by decide) (o 3 v3 (by decide) (o 2 v2 (by decide) (o 1 v1 (by decide) (o 0 v0 (by decide) h7))))))).set rfl v7).cell⟩

theorem eight_kep {a w : World} {b : Nat} (k : Kep non a w) (hb : a.heap.size ≤ b) (v0 v1 v2 v3 v4 v5 v6 v7 : Value) : Kep non a ((((((((w.setCell ⟨b, 0, none⟩ v0).setCell ⟨b, 1, none⟩ v1).setCell ⟨b, 2, none⟩ v2).setCell ⟨b, 3, none⟩ v3).setCell ⟨b, 4, none⟩ v4).setCell ⟨b, 5, none⟩ v5).setCell ⟨b, 6, none⟩ v6).setCell ⟨b, 7, none⟩ v7) :=
  ((((((((k.setCell (p := ⟨b, 0, none⟩) (.inr hb) v0).setCell (p := ⟨b, 1, none⟩) (.inr hb) v1).setCell (p := ⟨b, 2, none⟩) (.inr hb) v2).setCell (p := ⟨b, 3, none⟩) (.inr hb) v3).setCell (p := ⟨b, 4, none⟩) (.inr hb) v4).setCell (p := ⟨b, 5, none⟩) (.inr hb) v5).setCell (p := ⟨b, 6, none⟩) (.inr hb) v6).setCell (p := ⟨b, 7, none⟩) (.inr hb) v7)

theorem region_tail {P : Program} {id : Nat} {Q : Exit → Act → World → Prop} {a : Act} {w : World} {l : List Oper} (n : Nat) (hm : P.follows .mixedOrders = true) (hB : Region.lexTailB .any l.toArray n = true) (V : World) (hV : V = w.drew)
    (h : wpStill P l.toArray V (fun a' => wpList P l.toArray Q (l.drop n) a' V) (l.take n) a) : (Code.region id l.toArray true).wp P Q a w := by
  subst hV
  exact wp_region_still_tail n hm hB h

set_option maxRecDepth 100000 in
set_option maxHeartbeats 40000000 in
theorem order_any (W : World) (d rb n cap : Nat) (c3 : W.cell? ⟨d, 3, none⟩ = some (.slice (some ⟨rb, 0, none⟩) n cap)) (hR : 1 ≤ n ∧ n ≤ 3) (s : Stp) (hs : s.ok) :
    Calls Try.prog 16 #[.pointer (some ⟨d, 0, none⟩), s.agg] W fun e w' => e = .returned (orderOf s n).agg ∧ Kep non W w' := by
  obtain ⟨_, h1, h2, h3, h4, h5⟩ := hs
  have h6 := i64R_tdiv h4 (n := 2) (by omega)
  have h7 := i64R_tdiv h5 (n := 300) (by omega)
  have r1 : 1 ≤ (n : Int) := by omega
  have r2 : (n : Int) ≤ 3 := by omega
  obtain ⟨V, hV, kV, bV, oV⟩ : ∃ V, V = ((W.alloc (.cells #[.int .i64 s.k, .int .i64 s.t, .int .i64 s.h, .int .i64 s.g, .int .i64 s.p, .int .i64 s.q] 39)).alloc (.cells #[.int .i64 0, .int .i64 0, .int .i64 0, .int .i64 0, .int .i64 0, .int .i64 0, .int .i64 0, .int .i64 0] 42)).drew ∧ Kep non W V ∧
      V.heap[W.heap.size]? = some (.cells #[.int .i64 s.k, .int .i64 s.t, .int .i64 s.h, .int .i64 s.g, .int .i64 s.p, .int .i64 s.q] 39) ∧ V.heap[W.heap.size + 1]? = some (.cells #[.int .i64 0, .int .i64 0, .int .i64 0, .int .i64 0, .int .i64 0, .int .i64 0, .int .i64 0, .int .i64 0] 42) := by
    refine ⟨_, rfl, (((Kep.refl _ _).alloc _).alloc _).drew, ?_, ?_⟩
    · exact ((((Kep.refl non _).alloc _).drew).block W.heap.size (by simp) (fun f => f)).trans (heap_alloc_new W _)
    · have := heap_alloc_new (W.alloc (.cells #[.int .i64 s.k, .int .i64 s.t, .int .i64 s.h, .int .i64 s.g, .int .i64 s.p, .int .i64 s.q] 39)) (.cells #[.int .i64 0, .int .i64 0, .int .i64 0, .int .i64 0, .int .i64 0, .int .i64 0, .int .i64 0, .int .i64 0] 42)
      rw [show (W.alloc (.cells #[.int .i64 s.k, .int .i64 s.t, .int .i64 s.h, .int .i64 s.g, .int .i64 s.p, .int .i64 s.q] 39)).heap.size = W.heap.size + 1 by simp] at this
      exact this
  have c3' := kV.cell c3 (fun f => f)
  have b1 := cell_of_row _ _ 1 _ _ _ bV
  have b2 := cell_of_row _ _ 2 _ _ _ bV
  have b3 := cell_of_row _ _ 3 _ _ _ bV
  have b4 := cell_of_row _ _ 4 _ _ _ bV
  have b5 := cell_of_row _ _ 5 _ _ _ bV
  have HK := hide kV
  have HO := hide oV
  have q1 := pk_lt s.t (n := 4) (by decide)
  have q2 := pk_lt s.h (n := n) (by omega)
  have q3 := pk_lt s.g (n := 2) (by decide)
  have q4 := pk_lt s.p (n := 2) (by decide)
  have q5 := pk_lt (s.p.tdiv 2) (n := 40) (by decide)
  have q6 := pk_lt s.q (n := 300) (by decide)
  have q7 := pk_lt (s.q.tdiv 300) (n := 4) (by decide)
  have P1 := hide (pickI s.t 4 V h1 (by omega) (by omega))
  have P2 := hide (pickI s.h n V h2 (by omega) (by omega))
  have P3 := hide (pickI s.g 2 V h3 (by omega) (by omega))
  have P4 := hide (pickI s.p 2 V h4 (by omega) (by omega))
  have P5 := hide (pickI (s.p.tdiv 2) 40 V h6 (by omega) (by omega))
  have P6 := hide (pickI s.q 300 V h5 (by omega) (by omega))
  have P7 := hide (pickI (s.q.tdiv 300) 4 V h7 (by omega) (by omega))
  have HV := hide hV
  have b80 : (80 : Int) + (pk (s.p.tdiv 2) 40 : Int) ≤ 120 := by omega
  obtain ⟨h6a, h6b⟩ := h6
  obtain ⟨h7a, h7b⟩ := h7
  have w6 : IntKind.i64.wrap (s.p.tdiv 2) = s.p.tdiv 2 := by rw [IntKind.wrap_i64]; omega
  have w7 : IntKind.i64.wrap (s.q.tdiv 300) = s.q.tdiv 300 := by rw [IntKind.wrap_i64]; omega
  have W8 := hide (show IntKind.i64.wrap (80 + (pk (s.p.tdiv 2) 40 : Int)) = 80 + (pk (s.p.tdiv 2) 40 : Int) by rw [IntKind.wrap_i64]; omega)
  have W9 := hide (show IntKind.i64.wrap (1 + (pk s.q 300 : Int)) = 1 + (pk s.q 300 : Int) by rw [IntKind.wrap_i64]; omega)
  have W6 := hide w6
  have W7 := hide w7
  clear w6 w7 h6a h6b h7a h7b kV bV oV hV c3 h1 h2 h3 h4 h5 r1 r2 q1 q2 q3 q4 q7 hR
  unfold Stp.agg
  go_enter Try.func16, Try.ntmps16
  go_wp2_with fail
  refine region_tail 31 (by kernel_rfl) (by kernel_rfl) V HV.out ?_
  simp only [List.take_succ_cons, List.take_zero, List.drop_succ_cons, List.drop_zero]
  repeat still_step
  still_call P1.out
  repeat still_step
  still_call P2.out
  repeat still_step
  still_call P3.out
  repeat still_step
  still_call P4.out
  repeat still_step
  rw [W6.out]
  still_call P5.out
  repeat still_step
  still_call P6.out
  repeat still_step
  rw [W7.out]
  still_call P7.out
  repeat still_step
  refine wpStill_nil ?_
  rw [W8.out, W9.out]
  clear P1 P2 P3 P4 P5 P6 P7 W6 W7 W8 W9 HV b1 b2 b3 b4 b5 c3' b80 q5 q6
  have oV := HO.out
  have o0 := cell_of_row _ _ 0 _ _ _ oV
  have o1 := cell_of_row _ _ 1 _ _ _ oV
  have o2 := cell_of_row _ _ 2 _ _ _ oV
  have o3 := cell_of_row _ _ 3 _ _ _ oV
  have o4 := cell_of_row _ _ 4 _ _ _ oV
  have o5 := cell_of_row _ _ 5 _ _ _ oV
  have o6 := cell_of_row _ _ 6 _ _ _ oV
  have o7 := cell_of_row _ _ 7 _ _ _ oV
  have fz := fun j => frozen_of_row _ _ j _ _ oV
  clear oV
  go_wp2
  have T := eight_put ⟨o0, fz 0⟩ ⟨o1, fz 1⟩ ⟨o2, fz 2⟩ ⟨o3, fz 3⟩ ⟨o4, fz 4⟩ ⟨o5, fz 5⟩ ⟨o6, fz 6⟩ ⟨o7, fz 7⟩ (.int .i64 0) (.int .i64 (pk s.t 4)) (.int .i64 (pk s.h n)) (.int .i64 (pk s.g 2)) (.int .i64 (pk s.p 2)) (.int .i64 (80 + pk (s.p.tdiv 2) 40)) (.int .i64 (1 + pk s.q 300)) (.int .i64 (pk (s.q.tdiv 300) 4))
  exact bodyPost_ret (v := (orderOf s n).agg) (by simp [results, Try.results16, go_sem, orderOf, Od.agg, T.1, T.2.1, T.2.2.1, T.2.2.2.1, T.2.2.2.2.1, T.2.2.2.2.2.1, T.2.2.2.2.2.2.1, T.2.2.2.2.2.2.2]) rfl ⟨rfl, eight_kep HK.out (Nat.le_succ _) _ _ _ _ _ _ _ _⟩
end

end Go.Proofs.Ytcfoobhihhndjaa
