/- What a step of the desk may do to its market, and what it keeps. -/
import Derived.Test.YtcfoobhihhndjaaB39
namespace Go.Proofs.Ytcfoobhihhndjaa

section
open Go.RowKit Go.Sort

/-- one call on a market, or none -/
def Moves (m m' : Mt) : Prop :=
  m' = m ∨ (∃ t n, m' = payM m t n) ∨ (∃ t n, m' = drawM m t n) ∨ (∃ t h g n, m' = bringM m t h g n) ∨ (∃ t h g n, m' = takeM m t h g n) ∨ (∃ t f o g n, m' = shipM m t f o g n) ∨ m' = tickM m ∨ (∃ t id c, Cancels m t id c m') ∨ (∃ t id p q n ts c, Changes m t id p q n ts c m') ∨ (∃ o, m' = placeM m o)

/-- a step: the market behind it, and what is booked of it -/
structure Does (N : Int) (m : Mt) (mon p0 p1 : Int) (m' : Mt) (mon' p0' p1' : Int) : Prop where
  mv : Moves m m'
  inv : m'.Inv N
  nu : m'.nu ≤ m.nu + 1
  mon : m'.money - mon' = m.money - mon
  s0 : m'.stock 0 - p0' = m.stock 0 - p0
  s1 : m'.stock 1 - p1' = m.stock 1 - p1

section
variable {m m' : Mt} {N mon p0 p1 : Int}

theorem Does.same (I : m.Inv N) : Does N m mon p0 p1 m mon p0 p1 := ⟨.inl rfl, I, by omega, rfl, rfl, rfl⟩

theorem Does.sums (mv : Moves m m') (I : m'.Inv N) (hn : m'.nu ≤ m.nu + 1) (S : SameSums m m') : Does N m mon p0 p1 m' mon p0 p1 := ⟨mv, I, hn, by rw [S.1], by rw [S.2], by rw [S.2]⟩

theorem payE_ok {t n : Int} (e : payE m t n = 0) : okI m.T t := by
  unfold payE at e
  split at e
  · omega
  · rename_i q; exact Decidable.not_not.1 q
theorem drawE_ok {t n : Int} (e : drawE m t n = 0) : okI m.T t := by
  unfold drawE at e
  split at e
  · omega
  · rename_i q; exact Decidable.not_not.1 q

theorem Does.pay (I : m.Inv N) (t n : Int) : Does N m mon p0 p1 (payM m t n) (if payE m t n = 0 then mon + n else mon) p0 p1 := by
  have I' := I.pay t n
  refine ⟨.inr (.inl ⟨t, n, rfl⟩), I', ?_, ?_, ?_, ?_⟩
  all_goals
    unfold payM
    by_cases e : payE m t n = 0
    · rw [if_pos e]
      have ok := payE_ok e
      first
        | done
        | (show m.nu ≤ m.nu + 1; omega)
        | rfl
        | (rw [if_pos e, money_setMo m _ (by have := ok.2; have := ok.1; omega)]; omega)
    · rw [if_neg e]
      first
        | done
        | omega
        | rw [if_neg e]

theorem Does.draw (I : m.Inv N) (t n : Int) : Does N m mon p0 p1 (drawM m t n) (if drawE m t n = 0 then mon - n else mon) p0 p1 := by
  have I' := I.draw t n
  refine ⟨.inr (.inr (.inl ⟨t, n, rfl⟩)), I', ?_, ?_, ?_, ?_⟩
  all_goals
    unfold drawM
    by_cases e : drawE m t n = 0
    · rw [if_pos e]
      have ok := drawE_ok e
      first
        | done
        | (show m.nu ≤ m.nu + 1; omega)
        | rfl
        | (rw [if_pos e, money_setMo m _ (by have := ok.2; have := ok.1; omega)]; omega)
    · rw [if_neg e]
      first
        | done
        | omega
        | rw [if_neg e]

theorem lotsE_ok {t h g n : Int} (e : lotsE m t h g n = 0) : okI m.T t ∧ okI m.H h ∧ okI m.G g := by
  obtain ⟨h1, h2, h3, _⟩ := lotsE_zero e
  exact ⟨h1, h2, h3⟩

theorem Does.bring (I : m.Inv N) (t h n : Int) (g : Nat) (g2 : g < 2) : Does N m mon p0 p1 (bringM m t h g n) mon (if bringE m t h g n = 0 ∧ g = 0 then p0 + n else p0) (if bringE m t h g n = 0 ∧ g = 1 then p1 + n else p1) := by
  have I' := I.bring t h g n
  refine ⟨.inr (.inr (.inr (.inl ⟨t, h, g, n, rfl⟩))), I', ?_, ?_, ?_, ?_⟩
  all_goals
    unfold bringM
    by_cases e : bringE m t h g n = 0
    · rw [if_pos e]
      obtain ⟨o1, o2, o3⟩ := lotsE_ok (bringE_zero e).1
      have k1 : t.toNat < m.T := by have := o1.1; have := o1.2; omega
      have k2 : h.toNat < m.H := by have := o2.1; have := o2.2; omega
      first
        | done
        | (show m.nu ≤ m.nu + 1; omega)
        | (rw [money_setPc])
        | (rw [stock_setPc m _ _ _ k1 k2]
           simp only [e, true_and, Int.toNat_natCast]
           rcases (show g = 0 ∨ g = 1 by omega) with rfl | rfl <;> simp <;> omega)
    · rw [if_neg e]
      first
        | done
        | omega
        | simp [e]

theorem Does.take (I : m.Inv N) (t h n : Int) (g : Nat) (g2 : g < 2) : Does N m mon p0 p1 (takeM m t h g n) mon (if takeE m t h g n = 0 ∧ g = 0 then p0 - n else p0) (if takeE m t h g n = 0 ∧ g = 1 then p1 - n else p1) := by
  have I' := I.take t h g n
  refine ⟨.inr (.inr (.inr (.inr (.inl ⟨t, h, g, n, rfl⟩)))), I', ?_, ?_, ?_, ?_⟩
  all_goals
    unfold takeM
    by_cases e : takeE m t h g n = 0
    · rw [if_pos e]
      obtain ⟨o1, o2, o3⟩ := lotsE_ok (takeE_zero e).1
      have k1 : t.toNat < m.T := by have := o1.1; have := o1.2; omega
      have k2 : h.toNat < m.H := by have := o2.1; have := o2.2; omega
      first
        | done
        | (show m.nu ≤ m.nu + 1; omega)
        | (rw [money_setPc])
        | (rw [stock_setPc m _ _ _ k1 k2]
           simp only [e, true_and, Int.toNat_natCast]
           rcases (show g = 0 ∨ g = 1 by omega) with rfl | rfl <;> simp <;> omega)
    · rw [if_neg e]
      first
        | done
        | omega
        | simp [e]

theorem ship_nu (t f o g n : Int) : (shipM m t f o g n).nu = m.nu := by
  unfold shipM; split <;> rfl
theorem tick_nu : (tickM m).nu = m.nu := by
  unfold tickM
  split
  · exact (landM_rest _ _ _).2.2.1
  · rfl

theorem Does.ship (I : m.Inv N) (t f o g n : Int) : Does N m mon p0 p1 (shipM m t f o g n) mon p0 p1 :=
  .sums (.inr (.inr (.inr (.inr (.inr (.inl ⟨t, f, o, g, n, rfl⟩)))))) (I.ship t f o g n) (by rw [ship_nu]; omega) ⟨ship_money t f o g n, ship_stock t f o g n⟩
theorem Does.tick (I : m.Inv N) : Does N m mon p0 p1 (tickM m) mon p0 p1 :=
  .sums (.inr (.inr (.inr (.inr (.inr (.inr (.inl rfl))))))) I.tick (by rw [tick_nu]; omega) ⟨tick_money m, tick_stock I⟩
theorem Does.place (I : m.Inv N) (hn : m.nu + 1 ≤ N) (o : Od) : Does N m mon p0 p1 (placeM m o) mon p0 p1 :=
  .sums (.inr (.inr (.inr (.inr (.inr (.inr (.inr (.inr (.inr ⟨o, rfl⟩))))))))) (I.place hn o) (place_nu m o) (place_sums I hn o)
theorem Does.change (I : m.Inv N) (hn : m.nu + 1 ≤ N) {t id p q n c : Int} {ts : List Td} (C : Changes m t id p q n ts c m') : Does N m mon p0 p1 m' mon p0 p1 := by
  obtain ⟨h1, h2, h3⟩ := C.keeps I hn
  exact .sums (.inr (.inr (.inr (.inr (.inr (.inr (.inr (.inr (.inl ⟨t, id, p, q, n, ts, c, C⟩))))))))) h1 h3 h2
theorem Does.cancel (I : m.Inv N) {t id c : Int} (C : Cancels m t id c m') : Does N m mon p0 p1 m' mon p0 p1 := by
  obtain ⟨h1, h2⟩ := C.keeps I
  refine .sums (.inr (.inr (.inr (.inr (.inr (.inr (.inr (.inl ⟨t, id, c, C⟩)))))))) h1 ?_ h2
  rcases C with ⟨_, _, rfl⟩ | ⟨_, _, _, rfl⟩ | ⟨_, h, g, s, i, o, S, _, rfl⟩
  · omega
  · omega
  · rw [(back_nu m h g s i o).1]; omega
end

/-- what never changes of a market -/
structure Dims (m m' : Mt) : Prop where
  T : m'.T = m.T
  G : m'.G = m.G
  H : m'.H = m.H
  rt : m'.rt = m.rt

theorem Dims.refl (m : Mt) : Dims m m := ⟨rfl, rfl, rfl, rfl⟩
theorem Dims.trans {a b c : Mt} (h : Dims a b) (k : Dims b c) : Dims a c := ⟨k.T.trans h.T, k.G.trans h.G, k.H.trans h.H, k.rt.trans h.rt⟩
theorem Same.dims {m m' : Mt} (S : Same m m') : Dims m m' := ⟨S.T, S.G, S.H, S.rt⟩
theorem dims_release (m : Mt) (t h g s : Nat) (o : Od) : Dims m (releaseM m t h g s o) := by unfold releaseM; split <;> exact ⟨rfl, rfl, rfl, rfl⟩
theorem dims_hold (m : Mt) (t h g s : Nat) (o : Od) : Dims m (holdH m t h g s o) := by unfold holdH; split <;> exact ⟨rfl, rfl, rfl, rfl⟩
theorem dims_setBk (m : Mt) (h g s : Nat) (os : List Od) : Dims m (m.setBk h g s os) := ⟨rfl, rfl, rfl, rfl⟩
theorem dims_back (m : Mt) (h g s i : Nat) (o : Od) : Dims m (backM m h g s i o) := (dims_setBk m h g s _).trans (dims_release _ _ _ _ _ _)
theorem dims_less (m : Mt) (h g s i : Nat) (o : Od) (n : Int) : Dims m (lessM m h g s i o n) := ((dims_release m _ h g s o).trans (dims_setBk _ h g s _)).trans (dims_hold _ _ _ _ _ _)
theorem dims_again (m : Mt) (h g s : Nat) (o : Od) : Dims m (againM m h g s o) := (dims_hold m _ h g s o).trans (dims_setBk _ h g s _)
theorem dims_settle (m : Mt) (o : Od) : Dims m (settleM m o) := by
  unfold settleM
  split
  · exact ⟨rfl, rfl, rfl, rfl⟩
  · exact dims_release _ _ _ _ _ _
theorem dims_place (m : Mt) (o : Od) : Dims m (placeM m o) := by
  unfold placeM
  split
  · refine Dims.trans ?_ (dims_settle _ _)
    unfold placed
    exact Dims.trans (Dims.trans (b := { m with nu := m.nu + 1 }) ⟨rfl, rfl, rfl, rfl⟩ (same_hold _ _).dims) (matchM_same _ _ _).dims
  · exact Dims.refl m
theorem Moves.dims {m m' : Mt} (h : Moves m m') : Dims m m' := by
  rcases h with rfl | ⟨t, n, rfl⟩ | ⟨t, n, rfl⟩ | ⟨t, h, g, n, rfl⟩ | ⟨t, h, g, n, rfl⟩ | ⟨t, f, o, g, n, rfl⟩ | rfl | ⟨t, id, c, C⟩ | ⟨t, id, p, q, n, ts, c, C⟩ | ⟨o, rfl⟩
  · exact Dims.refl _
  · unfold payM; split <;> exact ⟨rfl, rfl, rfl, rfl⟩
  · unfold drawM; split <;> exact ⟨rfl, rfl, rfl, rfl⟩
  · unfold bringM; split <;> exact ⟨rfl, rfl, rfl, rfl⟩
  · unfold takeM; split <;> exact ⟨rfl, rfl, rfl, rfl⟩
  · unfold shipM; split <;> exact ⟨rfl, rfl, rfl, rfl⟩
  · unfold tickM
    split
    · have e := landM_same m (m.tm + 1) m.ld
      exact ⟨e.1, e.2.1, e.2.2.1, (landM_rest _ _ _).1⟩
    · exact Dims.refl _
  · rcases C with ⟨_, _, rfl⟩ | ⟨_, _, _, rfl⟩ | ⟨_, h, g, s, i, o, S, _, rfl⟩
    · exact Dims.refl _
    · exact Dims.refl _
    · exact dims_back _ _ _ _ _ _
  · rcases C with ⟨_, _, _, _, rfl⟩ | ⟨_, _, _, _, _, rfl⟩ | ⟨_, h, g, s, i, o, S, (⟨_, _, _, _, rfl⟩ | ⟨hf, hA, _, _, _, rfl⟩ | ⟨hf, hA, hE, _, _, _, rfl⟩ | ⟨hf, hA, hE, _, _, _, rfl⟩)⟩
    · exact Dims.refl _
    · exact Dims.refl _
    · exact Dims.refl _
    · exact dims_less _ _ _ _ _ _ _
    · exact (dims_back _ _ _ _ _ _).trans (dims_place _ _)
    · exact (dims_back _ _ _ _ _ _).trans (dims_again _ _ _ _ _)
  · exact dims_place _ _
end

end Go.Proofs.Ytcfoobhihhndjaa
