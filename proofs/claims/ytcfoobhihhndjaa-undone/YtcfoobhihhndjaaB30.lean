/- The plain market: what always holds, through Pay, Draw, Bring, Take, Ship, Tick. -/
import Derived.Test.YtcfoobhihhndjaaB10
import Derived.Test.YtcfoobhihhndjaaB28
import Derived.Test.YtcfoobhihhndjaaB29
namespace Go.Proofs.Ytcfoobhihhndjaa

section
theorem sumM_eq (m : Mt) : ∀ j, m.sumM j = m.ho + sumN m.mo j + sumN (fun i => heldL i m.all) j
  | 0 => by simp [Mt.sumM, sumN]
  | j + 1 => by
    simp only [Mt.sumM, sumN, sumM_eq m j]
    have : m.held j = heldL j m.all := rfl
    omega
theorem sumM_money (m : Mt) : m.sumM m.T = m.money := sumM_eq m m.T

theorem sumN_swap (f : Nat → Nat → Int) (H : Nat) : ∀ T, sumN (fun i => sumN (fun k => f i k) H) T = sumN (fun k => sumN (fun i => f i k) T) H
  | 0 => by
    simp only [sumN]
    exact (sumN_zero H).symm
  | T + 1 => by
    simp only [sumN]
    rw [sumN_swap f H T]
    exact (sumN_add _ _ H).symm

theorem rowTo_eq (m : Mt) (g i : Nat) : ∀ k, rowTo m g i k = sumN (fun k => m.pc i k g) k + sumN (fun k => keptL i (m.bk k g 1)) k + sumN (fun k => comeL i k g m.ld) k
  | 0 => by simp [rowTo, sumN]
  | k + 1 => by
    simp only [rowTo, sumN, rowTo_eq m g i k]
    have h1 : m.kept i k g = keptL i (m.bk k g 1) := rfl
    have h2 : m.come i k g = comeL i k g m.ld := rfl
    omega
theorem totTo_eq (m : Mt) (g : Nat) : ∀ i, totTo m g i = sumN (fun i => sumN (fun k => m.pc i k g) m.H) i + sumN (fun i => sumN (fun k => keptL i (m.bk k g 1)) m.H) i + sumN (fun i => sumN (fun k => comeL i k g m.ld) m.H) i
  | 0 => by simp [totTo, sumN]
  | i + 1 => by simp only [totTo, sumN, totTo_eq m g i, rowTo_eq]; omega
theorem totTo_stock (m : Mt) (g : Nat) : totTo m g m.T = m.stock g := by
  rw [totTo_eq, sumN_swap (fun i k => keptL i (m.bk k g 1))]
  rfl

section
variable {m : Mt} {N : Int}

/-- free money turned -/
theorem Mt.Inv.setMo (I : m.Inv N) {t : Nat} (ht : t < m.T) {x : Int} (h0 : 0 ≤ x) (h1 : m.money + (x - m.mo t) ≤ 1000000000000) : (m.setMo t x).Inv N := by
  refine ⟨I.bN, I.T1, I.T8, I.G1, I.G4, I.H1, I.H4, I.rt, fun i hi => ?_, I.pc, I.l20, I.ld, I.a60, fun a b c o ha hb hc ho => (I.od a b c o ha hb hc ho).of (Int.le_refl _) rfl, I.nu, I.ho, I.tm, ?_, fun g hg => I.stk g hg, I.pi, I.am⟩
  · show 0 ≤ if i = t then x else m.mo i
    have := I.mo i hi
    split <;> omega
  · rw [money_setMo m t ht]
    show _ + (0 : Int) ≤ _
    omega

/-- free pieces turned -/
theorem Mt.Inv.setPc (I : m.Inv N) {t h g : Nat} (ht : t < m.T) (hh : h < m.H) {x : Int} (h0 : 0 ≤ x) (h1 : m.stock g + (x - m.pc t h g) ≤ 1000000) : (m.setPc t h g x).Inv N := by
  refine ⟨I.bN, I.T1, I.T8, I.G1, I.G4, I.H1, I.H4, I.rt, I.mo, fun a b c ha hb hc => ?_, I.l20, I.ld, I.a60, fun a b c o ha hb hc ho => (I.od a b c o ha hb hc ho).of (Int.le_refl _) rfl, I.nu, I.ho, I.tm, I.mon, fun g' hg => ?_, I.pi, I.am⟩
  · show 0 ≤ if a = t ∧ b = h ∧ c = g then x else m.pc a b c
    have := I.pc a b c ha hb hc
    split <;> omega
  · rw [stock_setPc m t h g ht hh]
    have k : m.stock g' + 0 ≤ 1000000 := I.stk g' hg
    show _ + (0 : Int) ≤ _
    by_cases e : g' = g
    · subst e
      rw [if_pos rfl]; omega
    · rw [if_neg e]; omega

theorem Mt.Inv.pay (I : m.Inv N) (t x : Int) : (payM m t x).Inv N := by
  unfold payM
  split
  · rename_i h
    unfold payE at h
    split at h
    · omega
    · rename_i h1
      split at h
      · omega
      · rename_i h2
        split at h
        · omega
        · rename_i h3
          have h1' : okI m.T t := Classical.not_not.1 h1
          have h2' : okN x 1000000000000 := Classical.not_not.1 h2
          have ht : t.toNat < m.T := by have := h1'.1; have := h1'.2; omega
          rw [sumM_money] at h3
          have := I.mo _ ht
          have := h2'.1
          exact I.setMo ht (by omega) (by omega)
  · exact I

theorem Mt.Inv.draw (I : m.Inv N) (t x : Int) : (drawM m t x).Inv N := by
  unfold drawM
  split
  · rename_i h
    unfold drawE at h
    split at h
    · omega
    · rename_i h1
      split at h
      · omega
      · rename_i h2
        split at h
        · omega
        · rename_i h3
          have h1' : okI m.T t := Classical.not_not.1 h1
          have h2' : okN x 1000000000000 := Classical.not_not.1 h2
          have ht : t.toNat < m.T := by have := h1'.1; have := h1'.2; omega
          have := I.mo _ ht
          have := h2'.1
          have k : m.money + 0 ≤ 1000000000000 := I.mon
          exact I.setMo ht (by omega) (by omega)
  · exact I

theorem bringE_zero {t h g n : Int} (e : bringE m t h g n = 0) : lotsE m t h g n = 0 ∧ totTo m g.toNat m.T + n ≤ 1000000 := by
  unfold bringE at e
  split at e
  · rename_i h1
    exact absurd e h1
  · rename_i h1
    split at e
    · omega
    · exact ⟨Classical.not_not.1 h1, by omega⟩
theorem takeE_zero {t h g n : Int} (e : takeE m t h g n = 0) : lotsE m t h g n = 0 ∧ n ≤ m.pc t.toNat h.toNat g.toNat := by
  unfold takeE at e
  split at e
  · rename_i h1
    exact absurd e h1
  · rename_i h1
    split at e
    · omega
    · exact ⟨Classical.not_not.1 h1, by omega⟩

theorem Mt.Inv.bring (I : m.Inv N) (t h g n : Int) : (bringM m t h g n).Inv N := by
  unfold bringM
  split
  · rename_i e
    obtain ⟨e1, e2⟩ := bringE_zero e
    obtain ⟨i1, i2, i3, i4⟩ := lotsE_zero e1
    rw [totTo_stock] at e2
    have ht : t.toNat < m.T := by have := i1.1; have := i1.2; omega
    have hh : h.toNat < m.H := by have := i2.1; have := i2.2; omega
    have hg : g.toNat < m.G := by have := i3.1; have := i3.2; omega
    have := I.pc _ _ _ ht hh hg
    have := i4.1
    exact I.setPc ht hh (by omega) (by omega)
  · exact I

theorem Mt.Inv.take (I : m.Inv N) (t h g n : Int) : (takeM m t h g n).Inv N := by
  unfold takeM
  split
  · rename_i e
    obtain ⟨e1, e2⟩ := takeE_zero e
    obtain ⟨i1, i2, i3, i4⟩ := lotsE_zero e1
    have ht : t.toNat < m.T := by have := i1.1; have := i1.2; omega
    have hh : h.toNat < m.H := by have := i2.1; have := i2.2; omega
    have hg : g.toNat < m.G := by have := i3.1; have := i3.2; omega
    have k : m.stock g.toNat + 0 ≤ 1000000 := I.stk _ hg
    have := i4.1
    exact I.setPc ht hh (by omega) (by omega)
  · exact I
end

/-- loads, one by one -/
theorem comeS_cons (T H : Nat) (g : Int) (l : Lo) (r : List Lo) : comeS T H g (l :: r) = comeS T H g [l] + comeS T H g r := by
  unfold comeS
  rw [← sumN_add]
  refine sumN_congr fun i _ => ?_
  rw [← sumN_add]
  exact sumN_congr fun k _ => comeL_append i k g [l] r

theorem comeS_one {T H : Nat} {g : Nat} {l : Lo} (ht : 0 ≤ l.t ∧ l.t < T) (hh : 0 ≤ l.h ∧ l.h < H) : comeS T H g [l] = if l.g = g then l.n else 0 := by
  have e : ∀ i k : Nat, comeL i k g [l] = if i = l.t.toNat ∧ k = l.h.toNat then (if l.g = g then l.n else 0) else 0 := by
    intro i k
    simp only [comeL, Int.add_zero]
    by_cases q : i = l.t.toNat ∧ k = l.h.toNat
    · rw [if_pos q]
      by_cases eg : l.g = g
      · rw [if_pos eg, if_pos ⟨by omega, by omega, eg⟩]
      · rw [if_neg eg, if_neg (fun f => eg f.2.2)]
    · rw [if_neg q, if_neg (fun f => q ⟨by omega, by omega⟩)]
  unfold comeS
  have e2 : (fun i : Nat => sumN (fun k => comeL i k g [l]) H) = fun i : Nat => sumN (fun k => if i = l.t.toNat ∧ k = l.h.toNat then (if l.g = g then l.n else 0) else (fun (_ _ : Nat) => (0 : Int)) i k) H := by
    funext i
    exact sumN_congr fun k _ => e i k
  rw [e2, sumN2_upd (fun _ _ => 0)]
  rw [if_pos ⟨by omega, by omega⟩, sumN_congr (k := fun _ => 0) (fun i _ => sumN_zero H), sumN_zero]
  omega

theorem come_app (T H : Nat) (g : Int) : ∀ (a b : List Lo), comeS T H g (a ++ b) = comeS T H g a + comeS T H g b
  | [], b => by
    have : comeS T H g [] = 0 := by
      unfold comeS
      rw [sumN_congr (k := fun _ => 0) (fun i _ => ?_), sumN_zero]
      exact sumN_zero H
    rw [this, List.nil_append]; omega
  | l :: r, b => by rw [List.cons_append, comeS_cons, come_app T H g r b, comeS_cons T H g l r]; omega

/-- the pieces of loads that come, and of those that do not -/
theorem land_stock (now : Int) : ∀ (ls : List Lo) (m : Mt), (∀ l ∈ ls, (0 ≤ l.t ∧ l.t < m.T) ∧ (0 ≤ l.h ∧ l.h < m.H) ∧ 0 ≤ l.g) → ∀ g : Nat,
    (landM m now ls).stock g + comeS m.T m.H g (stay now ls) = m.stock g + comeS m.T m.H g ls
  | [], m, _, g => rfl
  | l :: r, m, h, g => by
    have hl := h l List.mem_cons_self
    have hr := fun x hx => h x (List.mem_cons_of_mem _ hx)
    rw [comeS_cons m.T m.H g l r]
    by_cases d : now < l.d
    · have ih := land_stock now r m hr g
      have e : stay now (l :: r) = l :: stay now r := by simp [stay, d]
      rw [e, comeS_cons m.T m.H g l, landM, if_pos d]
      omega
    · have ih := land_stock now r (m.setPc l.t.toNat l.h.toNat l.g.toNat (m.pc l.t.toNat l.h.toNat l.g.toNat + l.n)) hr g
      have e : stay now (l :: r) = stay now r := by simp [stay, d]
      rw [e, landM, if_neg d]
      rw [stock_setPc m _ _ _ (by omega) (by omega)] at ih
      change _ + comeS m.T m.H g (stay now r) = _ + comeS m.T m.H g r at ih
      rw [comeS_one hl.1 hl.2.1]
      by_cases eg : l.g = g
      · rw [if_pos eg]
        rw [if_pos (by omega)] at ih
        omega
      · rw [if_neg eg]
        rw [if_neg (by omega)] at ih
        omega

theorem landM_rest (m : Mt) (now : Int) (a : List Lo) : (landM m now a).rt = m.rt ∧ (landM m now a).bk = m.bk ∧ (landM m now a).nu = m.nu ∧ (landM m now a).ho = m.ho ∧ (landM m now a).la = m.la ∧ (landM m now a).pi = m.pi ∧ (landM m now a).am = m.am := by
  induction a generalizing m with
  | nil => simp [landM]
  | cons x a ih =>
    simp only [landM]
    have := ih (if now < x.d then m else m.setPc x.t.toNat x.h.toNat x.g.toNat (m.pc x.t.toNat x.h.toNat x.g.toNat + x.n))
    by_cases h : now < x.d
    · simpa [h] using this
    · simpa [h, Mt.setPc] using this

theorem landM_nn (now : Int) : ∀ (a : List Lo) (m : Mt), (∀ l ∈ a, 0 ≤ l.n) → (∀ t h g, t < m.T → h < m.H → g < m.G → 0 ≤ m.pc t h g) → ∀ t h g, t < m.T → h < m.H → g < m.G → 0 ≤ (landM m now a).pc t h g
  | [], m, _, hp => hp
  | l :: r, m, hb, hp => by
    rw [landM]
    by_cases d : now < l.d
    · rw [if_pos d]
      exact landM_nn now r m (fun x hx => hb x (List.mem_cons_of_mem _ hx)) hp
    · rw [if_neg d]
      refine landM_nn now r (m.setPc l.t.toNat l.h.toNat l.g.toNat (m.pc l.t.toNat l.h.toNat l.g.toNat + l.n)) (fun x hx => hb x (List.mem_cons_of_mem _ hx)) (fun t h g ht hh hg => ?_)
      show 0 ≤ if t = l.t.toNat ∧ h = l.h.toNat ∧ g = l.g.toNat then m.pc l.t.toNat l.h.toNat l.g.toNat + l.n else m.pc t h g
      have h1 := hp t h g ht hh hg
      have h2 := hb l List.mem_cons_self
      split
      · rename_i e
        obtain ⟨rfl, rfl, rfl⟩ := e
        omega
      · exact h1

theorem stock_ld (m : Mt) (ls : List Lo) (x : Int) (g : Nat) : ({ m with ld := ls, tm := x } : Mt).stock g = m.stock g + (comeS m.T m.H g ls - comeS m.T m.H g m.ld) := by
  show sumN (fun i => sumN (fun k => m.pc i k g) m.H) m.T + sumN (fun k => keptS m.T (m.bk k g 1)) m.H + comeS m.T m.H g ls = sumN (fun i => sumN (fun k => m.pc i k g) m.H) m.T + sumN (fun k => keptS m.T (m.bk k g 1)) m.H + comeS m.T m.H g m.ld + _
  omega

section
variable {m : Mt} {N : Int}

theorem tick_stock (I : m.Inv N) (g : Nat) : (tickM m).stock g = m.stock g := by
  unfold tickM
  split
  · have s := landM_same m (m.tm + 1) m.ld
    rw [stock_ld, s.1, s.2.2.1, s.2.2.2.2.1]
    have := land_stock (m.tm + 1) m.ld m (fun l hl => ⟨(I.ld l hl).1, (I.ld l hl).2.1, (I.ld l hl).2.2.1.1⟩) g
    omega
  · rfl

theorem tick_money (m : Mt) : (tickM m).money = m.money := by
  unfold tickM
  split
  · have s := landM_same m (m.tm + 1) m.ld
    have r := landM_rest m (m.tm + 1) m.ld
    have ha : (landM m (m.tm + 1) m.ld).all = m.all := by unfold Mt.all; rw [s.2.1, s.2.2.1, r.2.1]
    show (landM m (m.tm + 1) m.ld).ho + sumN (landM m (m.tm + 1) m.ld).mo (landM m (m.tm + 1) m.ld).T + heldS (landM m (m.tm + 1) m.ld).T (landM m (m.tm + 1) m.ld).all = _
    rw [s.1, s.2.2.2.1, r.2.2.2.1, ha]
    rfl
  · rfl

theorem Mt.Inv.tick (I : m.Inv N) : (tickM m).Inv N := by
  have hs := fun g => tick_stock I g
  have hm := tick_money m
  by_cases e : tickE m = 0
  · have s := landM_same m (m.tm + 1) m.ld
    have r := landM_rest m (m.tm + 1) m.ld
    have ha : (landM m (m.tm + 1) m.ld).all = m.all := by unfold Mt.all; rw [s.2.1, s.2.2.1, r.2.1]
    rw [tickM, if_pos e] at hs hm ⊢
    have et : m.tm < 1000000000 := by
      unfold tickE at e
      split at e <;> omega
    have tm := I.tm
    refine ⟨I.bN, ?_, ?_, ?_, ?_, ?_, ?_, fun h hh => ?_, fun t ht => ?_, fun a b c h1 h2 h3 => ?_, ?_, fun l hl => ?_, ?_, fun a b c o h1 h2 h3 ho => ?_, ?_, ?_, ⟨by show 0 ≤ m.tm + 1; omega, by show m.tm + 1 ≤ 1000000000; omega⟩, ?_, fun g hg => ?_, fun a b h1 h2 => ?_, fun a b h1 h2 => ?_⟩
    · show 1 ≤ (landM m (m.tm + 1) m.ld).T; rw [s.1]; exact I.T1
    · show (landM m (m.tm + 1) m.ld).T ≤ 8; rw [s.1]; exact I.T8
    · show 1 ≤ (landM m (m.tm + 1) m.ld).G; rw [s.2.1]; exact I.G1
    · show (landM m (m.tm + 1) m.ld).G ≤ 4; rw [s.2.1]; exact I.G4
    · show 1 ≤ (landM m (m.tm + 1) m.ld).H; rw [s.2.2.1]; exact I.H1
    · show (landM m (m.tm + 1) m.ld).H ≤ 4; rw [s.2.2.1]; exact I.H4
    · show 0 ≤ (landM m (m.tm + 1) m.ld).rt h ∧ (landM m (m.tm + 1) m.ld).rt h ≤ 100
      rw [r.1]; exact I.rt h (by rw [← s.2.2.1]; exact hh)
    · show 0 ≤ (landM m (m.tm + 1) m.ld).mo t
      rw [s.2.2.2.1]; exact I.mo t (by rw [← s.1]; exact ht)
    · exact landM_nn (m.tm + 1) m.ld m (fun l hl => by have := (I.ld l hl).2.2.2.1.1; omega) I.pc a b c (by rw [← s.1]; exact h1) (by rw [← s.2.2.1]; exact h2) (by rw [← s.2.1]; exact h3)
    · exact Nat.le_trans (stay_length _ _) I.l20
    · have hl' : l ∈ m.ld := (List.mem_filter.1 hl).1
      show (0 ≤ l.t ∧ l.t < (landM m (m.tm + 1) m.ld).T) ∧ (0 ≤ l.h ∧ l.h < (landM m (m.tm + 1) m.ld).H) ∧ (0 ≤ l.g ∧ l.g < (landM m (m.tm + 1) m.ld).G) ∧ _
      rw [s.1, s.2.1, s.2.2.1]
      exact I.ld l hl'
    · show (landM m (m.tm + 1) m.ld).all.length ≤ 60
      rw [ha]; exact I.a60
    · have ho' : o ∈ m.bk a b c := by rw [← r.2.1]; exact ho
      exact (I.od a b c o (by rw [← s.2.2.1]; exact h1) (by rw [← s.2.1]; exact h2) h3 ho').of (by show m.nu ≤ (landM m (m.tm + 1) m.ld).nu; rw [r.2.2.1]; omega) s.1
    · show 0 ≤ (landM m (m.tm + 1) m.ld).nu ∧ (landM m (m.tm + 1) m.ld).nu ≤ N
      rw [r.2.2.1]; exact I.nu
    · show 0 ≤ (landM m (m.tm + 1) m.ld).ho
      rw [r.2.2.2.1]; exact I.ho
    · rw [hm]; exact I.mon
    · rw [hs g]; exact I.stk g (by rw [← s.2.1]; exact hg)
    · show 0 ≤ (landM m (m.tm + 1) m.ld).pi a b ∧ (landM m (m.tm + 1) m.ld).pi a b + 10000 * ((landM m (m.tm + 1) m.ld).all.length + 0) ≤ 20000 * (landM m (m.tm + 1) m.ld).nu
      rw [ha, r.2.2.2.2.2.1, r.2.2.1]
      exact I.pi a b (by rw [← s.2.2.1]; exact h1) (by rw [← s.2.1]; exact h2)
    · show 0 ≤ (landM m (m.tm + 1) m.ld).am a b ∧ (landM m (m.tm + 1) m.ld).am a b + 1000000000 * ((landM m (m.tm + 1) m.ld).all.length + 0) ≤ 2000000000 * (landM m (m.tm + 1) m.ld).nu
      rw [ha, r.2.2.2.2.2.2, r.2.2.1]
      exact I.am a b (by rw [← s.2.2.1]; exact h1) (by rw [← s.2.1]; exact h2)
  · rw [tickM, if_neg e]; exact I

theorem shipE_zero {t f o g n : Int} (e : shipE m t f o g n = 0) : okI m.T t ∧ okI m.H f ∧ okI m.H o ∧ f ≠ o ∧ okI m.G g ∧ okN n 10000 ∧ n ≤ m.pc t.toNat f.toNat g.toNat ∧ m.ld.length < 20 := by
  unfold shipE at e
  split at e
  · cases e
  · rename_i i1
    split at e
    · cases e
    · rename_i i2
      split at e
      · cases e
      · rename_i i3
        split at e
        · cases e
        · rename_i i4
          split at e
          · cases e
          · split at e
            · cases e
            · exact ⟨Classical.not_not.1 i1, Classical.byContradiction fun q => i2 (.inl q), Classical.byContradiction fun q => i2 (.inr (.inl q)), fun q => i2 (.inr (.inr q)), Classical.not_not.1 i3, Classical.not_not.1 i4, by omega, by omega⟩

theorem ship_stock (t f o g n : Int) (g' : Nat) : (shipM m t f o g n).stock g' = m.stock g' := by
  unfold shipM
  split
  · rename_i e
    obtain ⟨i1, i2, i3, _, i5, i6, _, _⟩ := shipE_zero e
    have e1 := stock_ld (m.setPc t.toNat f.toNat g.toNat (m.pc t.toNat f.toNat g.toNat - n)) (m.ld ++ [⟨t, o, g, n, m.tm + 2 * far f o⟩]) m.tm g'
    refine e1.trans ?_
    rw [stock_setPc m _ _ _ (by have := i1.1; have := i1.2; omega) (by have := i2.1; have := i2.2; omega)]
    show m.stock g' + _ + (comeS m.T m.H g' (m.ld ++ [⟨t, o, g, n, m.tm + 2 * far f o⟩]) - comeS m.T m.H g' m.ld) = _
    rw [come_app, comeS_one (l := ⟨t, o, g, n, m.tm + 2 * far f o⟩) i1 i3]
    have := i5.1
    show m.stock g' + (if g' = g.toNat then m.pc t.toNat f.toNat g.toNat - n - m.pc t.toNat f.toNat g.toNat else 0) + (comeS m.T m.H g' m.ld + (if g = g' then n else 0) - comeS m.T m.H g' m.ld) = _
    by_cases q : g = g'
    · rw [if_pos q, if_pos (by omega)]; omega
    · rw [if_neg q, if_neg (by omega)]; omega
  · rfl

theorem ship_money (t f o g n : Int) : (shipM m t f o g n).money = m.money := by
  unfold shipM
  split <;> rfl

theorem Mt.Inv.ship (I : m.Inv N) (t f o g n : Int) : (shipM m t f o g n).Inv N := by
  have hs := fun g' => ship_stock (m := m) t f o g n g'
  by_cases e : shipE m t f o g n = 0
  · obtain ⟨i1, i2, i3, i4, i5, i6, i7, i8⟩ := shipE_zero e
    rw [shipM, if_pos e] at hs ⊢
    have tm := I.tm
    have hf : 0 ≤ far f o ∧ far f o ≤ 4 := by
      have := I.H4
      have := i2.1
      have := i2.2
      have := i3.1
      have := i3.2
      unfold far
      split <;> omega
    refine ⟨I.bN, I.T1, I.T8, I.G1, I.G4, I.H1, I.H4, I.rt, I.mo, fun a b c h1 h2 h3 => ?_, by simp; omega, fun l hl => ?_, I.a60, fun a b c x h1 h2 h3 hx => (I.od a b c x h1 h2 h3 hx).of (Int.le_refl _) rfl, I.nu, I.ho, I.tm, I.mon, fun g' hg => by rw [hs]; exact I.stk g' hg, I.pi, I.am⟩
    · show 0 ≤ if a = t.toNat ∧ b = f.toNat ∧ c = g.toNat then m.pc t.toNat f.toNat g.toNat - n else m.pc a b c
      have := I.pc a b c h1 h2 h3
      split <;> omega
    · rcases List.mem_append.1 hl with h | h
      · exact I.ld l h
      · have : l = ⟨t, o, g, n, m.tm + 2 * far f o⟩ := by simpa using h
        subst this
        exact ⟨i1, i3, i5, i6, by show 0 ≤ m.tm + 2 * far f o; omega, by show m.tm + 2 * far f o ≤ 1000000010; omega⟩
  · rw [shipM, if_neg e]; exact I
end
end

/- The statements' desk in memory, with its market. -/
section
open Go.RowKit Go.Sort

/-- A desk at block d: its market, its rates, the money and the pieces that were brought and not taken. w: the world in which all began. -/
structure DRep (w : World) (d : Nat) (rs : List Int) (mon : Int) (p0 p1 : Int) (L : PL) (rv : Value) (pb : Nat) (m : Mt) (W : World) : Prop where
  kp : Kep non w W
  R : PRep W L m
  c0 : Own W ⟨d, 0, none⟩ (.pointer (some ⟨L.x, 0, none⟩))
  c3 : Own W ⟨d, 3, none⟩ rv
  c4 : Own W ⟨d, 4, none⟩ (.int .i64 mon)
  c5 : Own W ⟨d, 5, none⟩ (.slice (some ⟨pb, 0, none⟩) 2 2)
  q0 : Own W ⟨pb, 0, none⟩ (.int .i64 p0)
  q1 : Own W ⟨pb, 1, none⟩ (.int .i64 p1)
  rr : ∃ rb cap, rv = .slice (some ⟨rb, 0, none⟩) rs.length cap ∧ rb < W.heap.size ∧ rb ≠ d ∧ rb ≠ pb ∧ ¬ L.S m rb ∧ ∀ i x, rs[i]? = some x → W.cell? ⟨rb, i, none⟩ = some (.int .i64 x)
  nd : ¬ L.S m d
  np : ¬ L.S m pb
  dp : d ≠ pb
  dr : d ≠ L.rb ∧ d ≠ L.bb ∧ pb ≠ L.rb ∧ pb ≠ L.bb
  fS : ∀ b, L.S m b → w.heap.size ≤ b
  fd : w.heap.size ≤ d ∧ w.heap.size ≤ pb

section
variable {w : World} {d : Nat} {rs : List Int} {mon p0 p1 : Int} {L : PL} {rv : Value} {pb : Nat} {m : Mt} {W : World}

theorem DRep.lt (D : DRep w d rs mon p0 p1 L rv pb m W) : d < W.heap.size ∧ pb < W.heap.size := ⟨D.c0.lt, D.q0.lt⟩

/-- a call on the market: its memory turned -/
theorem DRep.turn (D : DRep w d rs mon p0 p1 L rv pb m W) {m' : Mt} {L' : PL} {W' : World} (k : Kep (L.S m) W W') (ex : L'.x = L.x ∧ L'.rb = L.rb ∧ L'.bb = L.bb) (sub : ∀ b, L'.S m' b → L.S m b ∨ W.heap.size ≤ b) (R' : PRep W' L' m') : DRep w d rs mon p0 p1 L' rv pb m' W' := by
  have lt := D.lt
  obtain ⟨rb, cap, e, r1, r2, r3, r4, r5⟩ := D.rr
  refine ⟨D.kp.trans' k (fun i hi => .inr (D.fS i hi)), R', by rw [ex.1]; exact D.c0.kep k D.nd, D.c3.kep k D.nd, D.c4.kep k D.nd, D.c5.kep k D.nd, D.q0.kep k D.np, D.q1.kep k D.np, ⟨rb, cap, e, Nat.lt_of_lt_of_le r1 k.size, r2, r3, fun f => ?_, fun i x hx => k.cell (r5 i x hx) r4⟩, fun f => ?_, fun f => ?_, D.dp, by rw [ex.2.1, ex.2.2]; exact D.dr, fun b f => ?_, D.fd⟩
  · rcases sub _ f with f | f
    · exact r4 f
    · omega
  · rcases sub _ f with f | f
    · exact D.nd f
    · omega
  · rcases sub _ f with f | f
    · exact D.np f
    · omega
  · rcases sub _ f with f | f
    · exact D.fS _ f
    · have := D.kp.size; omega

theorem DRep.later (D : DRep w d rs mon p0 p1 L rv pb m W) {W' : World} (k : Kep non W W') : DRep w d rs mon p0 p1 L rv pb m W' :=
  D.turn k.none ⟨rfl, rfl, rfl⟩ (fun _ h => .inl h) (D.R.later k)

/-- the desk's money was written -/
theorem DRep.setMon (D : DRep w d rs mon p0 p1 L rv pb m W) (x : Int) : DRep w d rs x p0 p1 L rv pb m (W.setCell ⟨d, 4, none⟩ (.int .i64 x)) := by
  have k : Kep (fun b => b = d) W (W.setCell ⟨d, 4, none⟩ (.int .i64 x)) := (Kep.refl (fun b => b = d) W).setCell (p := ⟨d, 4, none⟩) (.inl rfl) _
  obtain ⟨rb, cap, e, r1, r2, r3, r4, r5⟩ := D.rr
  have oc : ∀ {j : Nat} {u : Value}, j ≠ 4 → Own W ⟨d, j, none⟩ u → Own (W.setCell ⟨d, 4, none⟩ (.int .i64 x)) ⟨d, j, none⟩ u := fun hj h => h.set_other (by intro q; injection q with _ q _; exact hj q) rfl rfl _
  exact ⟨D.kp.setCell (p := ⟨d, 4, none⟩) (.inr D.fd.1) _, D.R.keep k (fun b hb e => D.nd (e ▸ hb)) (fun e => D.dr.1 e.symm) (fun e => D.dr.2.1 e.symm), oc (by decide) D.c0, oc (by decide) D.c3, D.c4.set rfl _, oc (by decide) D.c5, D.q0.kep k (Ne.symm D.dp), D.q1.kep k (Ne.symm D.dp), ⟨rb, cap, e, by simpa using r1, r2, r3, r4, fun i y hy => k.cell (r5 i y hy) r2⟩, D.nd, D.np, D.dp, D.dr, D.fS, D.fd⟩

/-- the desk's pieces of a good were written -/
theorem DRep.setP (D : DRep w d rs mon p0 p1 L rv pb m W) (g : Nat) (hg : g < 2) (x : Int) : DRep w d rs mon (if g = 0 then x else p0) (if g = 1 then x else p1) L rv pb m (W.setCell ⟨pb, g, none⟩ (.int .i64 x)) := by
  have k : Kep (fun b => b = pb) W (W.setCell ⟨pb, g, none⟩ (.int .i64 x)) := (Kep.refl (fun b => b = pb) W).setCell (p := ⟨pb, g, none⟩) (.inl rfl) _
  obtain ⟨rb, cap, e, r1, r2, r3, r4, r5⟩ := D.rr
  have dp := D.dp
  refine ⟨D.kp.setCell (p := ⟨pb, g, none⟩) (.inr D.fd.2) _, D.R.keep k (fun b hb e => D.np (e ▸ hb)) (fun e => D.dr.2.2.1 e.symm) (fun e => D.dr.2.2.2 e.symm), D.c0.kep k dp, D.c3.kep k dp, D.c4.kep k dp, D.c5.kep k dp, ?_, ?_, ⟨rb, cap, e, by simpa using r1, r2, r3, r4, fun i y hy => k.cell (r5 i y hy) r3⟩, D.nd, D.np, D.dp, D.dr, D.fS, D.fd⟩
  · by_cases e0 : g = 0
    · subst e0
      simpa using D.q0.set rfl (.int .i64 x)
    · rw [if_neg e0]
      exact D.q0.set_other (by intro q; injection q with _ q _; exact e0 q.symm) rfl rfl _
  · by_cases e0 : g = 1
    · subst e0
      simpa using D.q1.set rfl (.int .i64 x)
    · rw [if_neg e0]
      exact D.q1.set_other (by intro q; injection q with _ q _; exact e0 q.symm) rfl rfl _
end
end

end Go.Proofs.Ytcfoobhihhndjaa
