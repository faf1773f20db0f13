/- Sums over the orders that wait. -/
import Derived.Test.YtcfoobhihhndjaaGreatB01
import Derived.Test.YtcfoobhihhndjaaGreatB09
namespace Go.Proofs.YtcfoobhihhndjaaGreat

section
/-- a measure of lists that adds up -/
structure Adds {α : Type} (φ : List α → Int) : Prop where
  nil : φ [] = 0
  app : ∀ a b, φ (a ++ b) = φ a + φ b

theorem Adds.cons {α : Type} {φ : List α → Int} (A : Adds φ) (x : α) (l : List α) : φ (x :: l) = φ [x] + φ l := A.app [x] l

theorem adds_held (t : Int) : Adds (heldL t) := ⟨rfl, heldL_append t⟩
theorem adds_kept (t : Int) : Adds (keptL t) := ⟨rfl, keptL_append t⟩
theorem adds_len {α : Type} : Adds (fun l : List α => (l.length : Int)) := ⟨rfl, fun a b => by simp⟩

theorem adds_upG {α : Type} {φ : List α → Int} (A : Adds φ) (f : Nat → Nat → List α) (g s : Nat) (hs : s < 2) (os : List α) : ∀ G, φ (upG (fun b c => if b = g ∧ c = s then os else f b c) G) = φ (upG f G) + if g < G then φ os - φ (f g s) else 0
  | 0 => by simp [upG]
  | G + 1 => by
    have ih := adds_upG A f g s hs os G
    simp only [upG, two, A.app, ih]
    by_cases e : G = g
    · subst e
      rcases s with _ | _ | s
      · simp; omega
      · simp; omega
      · omega
    · simp only [e, false_and, if_false]
      by_cases q : g < G
      · rw [if_pos q, if_pos (by omega)]; omega
      · rw [if_neg q, if_neg (by omega)]; omega

theorem adds_upH {α : Type} {φ : List α → Int} (A : Adds φ) (G : Nat) (f : Nat → Nat → Nat → List α) (h g s : Nat) (hg : g < G) (hs : s < 2) (os : List α) : ∀ H, φ (upH G (fun a b c => if a = h ∧ b = g ∧ c = s then os else f a b c) H) = φ (upH G f H) + if h < H then φ os - φ (f h g s) else 0
  | 0 => by simp [upH]
  | H + 1 => by
    have ih := adds_upH A G f h g s hg hs os H
    simp only [upH, A.app, ih]
    by_cases e : H = h
    · subst e
      have := adds_upG A (f H) g s hs os G
      simp only [true_and]
      rw [this, if_pos hg, if_neg (Nat.lt_irrefl _), if_pos (Nat.lt_succ_self _)]
      omega
    · have e' : (fun b c => if H = h ∧ b = g ∧ c = s then os else f H b c) = f H := by funext b c; simp [e]
      rw [e']
      by_cases q : h < H
      · rw [if_pos q, if_pos (by omega)]; omega
      · rw [if_neg q, if_neg (by omega)]; omega

/-- the sum of the first n -/
def sumN (f : Nat → Int) : Nat → Int
  | 0 => 0
  | n + 1 => sumN f n + f n

theorem sumN_congr {f k : Nat → Int} : ∀ {n : Nat}, (∀ i, i < n → f i = k i) → sumN f n = sumN k n
  | 0, _ => rfl
  | n + 1, h => by rw [sumN, sumN, sumN_congr (fun i hi => h i (by omega)), h n (by omega)]
theorem sumN_add (f k : Nat → Int) : ∀ n, sumN (fun i => f i + k i) n = sumN f n + sumN k n
  | 0 => rfl
  | n + 1 => by simp only [sumN, sumN_add f k n]; omega
theorem sumN_zero : ∀ n, sumN (fun _ => 0) n = 0
  | 0 => rfl
  | n + 1 => by simp only [sumN, sumN_zero n]; omega
theorem sumN_upd (f : Nat → Int) (k : Nat) (x : Int) : ∀ n, sumN (fun i => if i = k then x else f i) n = sumN f n + if k < n then x - f k else 0
  | 0 => by simp [sumN]
  | n + 1 => by
    simp only [sumN, sumN_upd f k x n]
    by_cases e : n = k
    · subst e; simp; omega
    · rw [if_neg e]
      by_cases q : k < n
      · rw [if_pos q, if_pos (by omega)]; omega
      · rw [if_neg q, if_neg (by omega)]; omega
theorem sumN_one (k : Nat) (x : Int) (n : Nat) : sumN (fun i => if i = k then x else 0) n = if k < n then x else 0 := by
  rw [sumN_upd (fun _ => 0), sumN_zero]; simp
theorem sumN_nonneg {f : Nat → Int} : ∀ {n : Nat}, (∀ i, i < n → 0 ≤ f i) → 0 ≤ sumN f n
  | 0, _ => by simp [sumN]
  | n + 1, h => by
    have := sumN_nonneg (f := f) (n := n) (fun i hi => h i (by omega))
    have := h n (by omega)
    simp only [sumN]; omega
theorem sumN_le {f : Nat → Int} : ∀ {n : Nat}, (∀ i, i < n → 0 ≤ f i) → ∀ k, k < n → f k ≤ sumN f n
  | 0, _, k, hk => by omega
  | n + 1, h, k, hk => by
    have h1 := sumN_nonneg (f := f) (n := n) (fun i hi => h i (by omega))
    have h2 := h n (by omega)
    simp only [sumN]
    by_cases e : k = n
    · subst e; omega
    · have := sumN_le (f := f) (n := n) (fun i hi => h i (by omega)) k (by omega)
      omega

/-- what is held of all traders' money; of all their pieces -/
def heldS (T : Nat) (l : List Od) : Int := sumN (fun j => heldL j l) T
def keptS (T : Nat) (l : List Od) : Int := sumN (fun j => keptL j l) T

theorem adds_heldS (T : Nat) : Adds (heldS T) :=
  ⟨by simp only [heldS, heldL]; exact sumN_zero T, fun a b => by simp only [heldS, heldL_append]; exact sumN_add _ _ T⟩
theorem adds_keptS (T : Nat) : Adds (keptS T) :=
  ⟨by simp only [keptS, keptL]; exact sumN_zero T, fun a b => by simp only [keptS, keptL_append]; exact sumN_add _ _ T⟩

theorem heldS_one {T : Nat} {o : Od} (h : 0 ≤ o.t ∧ o.t < T) : heldS T [o] = if o.s = 0 then o.p * o.q else 0 := by
  have e : (fun j : Nat => heldL j [o]) = fun j => if j = o.t.toNat then (if o.s = 0 then o.p * o.q else 0) else 0 := by
    funext j
    simp only [heldL]
    by_cases q : j = o.t.toNat
    · have e : o.t = j := by omega
      rw [if_pos q]
      simp [e]
    · have e : ¬ o.t = j := by omega
      rw [if_neg q]
      simp [e]
  rw [heldS, e, sumN_one, if_pos (by omega)]

theorem keptS_one {T : Nat} {o : Od} (h : 0 ≤ o.t ∧ o.t < T) : keptS T [o] = o.q := by
  have e : (fun j : Nat => keptL j [o]) = fun j => if j = o.t.toNat then o.q else 0 := by
    funext j
    simp only [keptL]
    by_cases q : j = o.t.toNat
    · have e : o.t = j := by omega
      rw [if_pos q]
      simp [e]
    · have e : ¬ o.t = j := by omega
      rw [if_neg q]
      simp [e]
  rw [keptS, e, sumN_one, if_pos (by omega)]
end

/- Sums of the plain market, and what a trade does to them. -/
section
/-- all money -/
def Mt.money (m : Mt) : Int := m.ho + sumN m.mo m.T + heldS m.T m.all
def comeS (T H : Nat) (g : Int) (l : List Lo) : Int := sumN (fun i => sumN (fun k => comeL i k g l) H) T
/-- all pieces of a good -/
def Mt.stock (m : Mt) (g : Nat) : Int := sumN (fun i => sumN (fun k => m.pc i k g) m.H) m.T + sumN (fun k => keptS m.T (m.bk k g 1)) m.H + comeS m.T m.H g m.ld

theorem money_setMo (m : Mt) (k : Nat) (hk : k < m.T) (x : Int) : (m.setMo k x).money = m.money + (x - m.mo k) := by
  show m.ho + sumN (fun i => if i = k then x else m.mo i) m.T + heldS m.T m.all = m.ho + sumN m.mo m.T + heldS m.T m.all + _
  rw [sumN_upd, if_pos hk]; omega
theorem money_setPc (m : Mt) (t h g : Nat) (x : Int) : (m.setPc t h g x).money = m.money := rfl
theorem money_ho (m : Mt) (x : Int) : ({ m with ho := x } : Mt).money = m.money + (x - m.ho) := by
  show x + sumN m.mo m.T + heldS m.T m.all = m.ho + sumN m.mo m.T + heldS m.T m.all + _
  omega
theorem money_note (m : Mt) (h g : Nat) (p q : Int) : (noteM m h g p q).money = m.money := rfl
theorem money_setBk (m : Mt) {h g s : Nat} (q : at3 m h g s) (os : List Od) : (m.setBk h g s os).money = m.money + (heldS m.T os - heldS m.T (m.bk h g s)) := by
  show m.ho + sumN m.mo m.T + heldS m.T (upH m.G (fun a b c => if a = h ∧ b = g ∧ c = s then os else m.bk a b c) m.H) = m.ho + sumN m.mo m.T + heldS m.T m.all + _
  rw [adds_upH (adds_heldS m.T) m.G m.bk h g s q.2.1 q.2.2 os m.H, if_pos q.1]
  show _ = m.ho + sumN m.mo m.T + heldS m.T (upH m.G m.bk m.H) + _
  omega

theorem sumN2_upd (f : Nat → Nat → Int) (t h : Nat) (x : Int) (T H : Nat) : sumN (fun i => sumN (fun k => if i = t ∧ k = h then x else f i k) H) T = sumN (fun i => sumN (fun k => f i k) H) T + if t < T ∧ h < H then x - f t h else 0 := by
  have e : (fun i => sumN (fun k => if i = t ∧ k = h then x else f i k) H) = fun i => if i = t then sumN (fun k => if k = h then x else f t k) H else sumN (fun k => f i k) H := by
    funext i
    by_cases q : i = t
    · subst q; simp
    · simp [q]
  rw [e, sumN_upd, sumN_upd]
  have eta : sumN (fun k => f t k) H = sumN (f t) H := rfl
  by_cases q : t < T
  · by_cases q' : h < H
    · rw [if_pos q, if_pos q', if_pos ⟨q, q'⟩]; omega
    · rw [if_pos q, if_neg q', if_neg (fun k => q' k.2)]; omega
  · rw [if_neg q, if_neg (fun k => q k.1)]

theorem stock_setMo (m : Mt) (k : Nat) (x : Int) (g : Nat) : (m.setMo k x).stock g = m.stock g := rfl
theorem stock_ho (m : Mt) (x : Int) (g : Nat) : ({ m with ho := x } : Mt).stock g = m.stock g := rfl
theorem stock_note (m : Mt) (h g : Nat) (p q : Int) (g' : Nat) : (noteM m h g p q).stock g' = m.stock g' := rfl
theorem stock_setPc (m : Mt) (t h g : Nat) (ht : t < m.T) (hh : h < m.H) (x : Int) (g' : Nat) : (m.setPc t h g x).stock g' = m.stock g' + if g' = g then x - m.pc t h g else 0 := by
  show sumN (fun i => sumN (fun k => if i = t ∧ k = h ∧ g' = g then x else m.pc i k g') m.H) m.T + sumN (fun k => keptS m.T (m.bk k g' 1)) m.H + comeS m.T m.H g' m.ld = _
  by_cases e : g' = g
  · subst e
    have := sumN2_upd (fun i k => m.pc i k g') t h x m.T m.H
    simp only [and_true, if_true]
    rw [this, if_pos ⟨ht, hh⟩]
    unfold Mt.stock
    omega
  · simp only [e, and_false, if_false]
    unfold Mt.stock
    omega
theorem stock_setBk (m : Mt) {h g s : Nat} (q : at3 m h g s) (os : List Od) (g' : Nat) : (m.setBk h g s os).stock g' = m.stock g' + if s = 1 ∧ g' = g then keptS m.T os - keptS m.T (m.bk h g 1) else 0 := by
  show sumN (fun i => sumN (fun k => m.pc i k g') m.H) m.T + sumN (fun k => keptS m.T (if k = h ∧ g' = g ∧ 1 = s then os else m.bk k g' 1)) m.H + comeS m.T m.H g' m.ld = _
  by_cases e : s = 1 ∧ g' = g
  · obtain ⟨rfl, rfl⟩ := e
    have e2 : (fun k => keptS m.T (if k = h ∧ g' = g' ∧ 1 = 1 then os else m.bk k g' 1)) = fun k => if k = h then keptS m.T os else keptS m.T (m.bk k g' 1) := by
      funext k
      by_cases q : k = h
      · simp [q]
      · simp [q]
    rw [e2, sumN_upd, if_pos q.1, if_pos ⟨rfl, rfl⟩]
    unfold Mt.stock
    omega
  · have e2 : (fun k => keptS m.T (if k = h ∧ g' = g ∧ 1 = s then os else m.bk k g' 1)) = fun k => keptS m.T (m.bk k g' 1) := by
      funext k
      rw [if_neg (fun k => e ⟨k.2.2.symm, k.2.1⟩)]
    rw [e2, if_neg e]
    unfold Mt.stock
    omega

/-- what an order in the air holds -/
def airM (o : Od) : Int := if o.s = 0 then o.p * o.q else 0
def airP (o : Od) (g : Nat) : Int := if o.s = 1 ∧ o.g = g then o.q else 0

theorem tradeM_bk (m : Mt) (tb ts tc h g s i : Nat) (d n a f : Int) (z' : Od) : (tradeM m tb ts tc h g s i d n a f z').bk = (m.setBk h g s ((m.bk h g s).set i z')).bk := rfl

theorem money_trade (m : Mt) {tb ts tc h g s i : Nat} (q : at3 m h g s) (htb : tb < m.T) (hts : ts < m.T) (htc : tc < m.T) (d n a f : Int) (z' : Od) :
    (tradeM m tb ts tc h g s i d n a f z').money = m.money + d + a + (heldS m.T ((m.bk h g s).set i z') - heldS m.T (m.bk h g s)) := by
  unfold tradeM
  refine (money_setBk _ (by exact q) _).trans ?_
  rw [money_ho, money_setMo _ _ (by exact htc), money_setMo _ _ (by exact hts), money_setPc, money_setMo _ _ htb]
  show _ + _ + _ + (_ + f - _) + (heldS m.T ((m.bk h g s).set i z') - heldS m.T (m.bk h g s)) = _
  omega

theorem stock_trade (m : Mt) {tb ts tc h g s i : Nat} (q : at3 m h g s) (htb : tb < m.T) (d n a f : Int) (z' : Od) (g' : Nat) :
    (tradeM m tb ts tc h g s i d n a f z').stock g' = m.stock g' + (if g' = g then n else 0) + if s = 1 ∧ g' = g then keptS m.T ((m.bk h g s).set i z') - keptS m.T (m.bk h g 1) else 0 := by
  unfold tradeM
  refine (stock_setBk _ (by exact q) _ g').trans ?_
  rw [stock_ho, stock_setMo, stock_setMo, stock_setPc _ _ _ _ (by exact htb) (by exact q.1), stock_setMo]
  show _ + _ + (if s = 1 ∧ g' = g then keptS m.T ((m.bk h g s).set i z') - keptS m.T (m.bk h g 1) else 0) = _
  have e : ∀ k, (m.setMo tb k).pc tb h g = m.pc tb h g := fun _ => rfl
  rw [e]
  split <;> omega
end

/- What always holds of the plain market. -/
section
/-- A: money, P: pieces that an order in the air holds; sl: how many trades it may still make. -/
structure Mt.In (m : Mt) (N A : Int) (P : Nat → Int) (sl : Int) : Prop where
  bN : 1000000 ≤ N ∧ N ≤ 50000000
  T1 : 1 ≤ m.T
  T8 : m.T ≤ 8
  G1 : 1 ≤ m.G
  G4 : m.G ≤ 4
  H1 : 1 ≤ m.H
  H4 : m.H ≤ 4
  rt : ∀ h, h < m.H → 0 ≤ m.rt h ∧ m.rt h ≤ 100
  mo : ∀ t, t < m.T → 0 ≤ m.mo t
  pc : ∀ t h g, t < m.T → h < m.H → g < m.G → 0 ≤ m.pc t h g
  l20 : m.ld.length ≤ 20
  ld : ∀ l, l ∈ m.ld → (0 ≤ l.t ∧ l.t < m.T) ∧ (0 ≤ l.h ∧ l.h < m.H) ∧ (0 ≤ l.g ∧ l.g < m.G) ∧ (1 ≤ l.n ∧ l.n ≤ 10000) ∧ (0 ≤ l.d ∧ l.d ≤ 1000000010)
  a60 : m.all.length ≤ 60
  od : ∀ h g s o, h < m.H → g < m.G → s < 2 → o ∈ m.bk h g s → o.Ok m h g s
  nu : 0 ≤ m.nu ∧ m.nu ≤ N
  ho : 0 ≤ m.ho
  tm : 0 ≤ m.tm ∧ m.tm ≤ 1000000000
  mon : m.money + A ≤ 1000000000000
  stk : ∀ g, g < m.G → m.stock g + P g ≤ 1000000
  pi : ∀ h g, h < m.H → g < m.G → 0 ≤ m.pi h g ∧ m.pi h g + 10000 * (m.all.length + sl) ≤ 20000 * m.nu
  am : ∀ h g, h < m.H → g < m.G → 0 ≤ m.am h g ∧ m.am h g + 1000000000 * (m.all.length + sl) ≤ 2000000000 * m.nu

theorem heldS_nonneg {T : Nat} {l : List Od} (h : ∀ o ∈ l, (1 ≤ o.p ∧ o.p ≤ 100000) ∧ (1 ≤ o.q ∧ o.q ≤ 10000)) : 0 ≤ heldS T l := sumN_nonneg fun i _ => (heldL_bd i l h).1
theorem keptS_nonneg {T : Nat} {l : List Od} (h : ∀ o ∈ l, 1 ≤ o.q ∧ o.q ≤ 10000) : 0 ≤ keptS T l := sumN_nonneg fun i _ => (keptL_bd i l h).1
theorem comeS_nonneg {T H : Nat} {g : Int} {l : List Lo} (h : ∀ o ∈ l, 1 ≤ o.n ∧ o.n ≤ 10000) : 0 ≤ comeS T H g l := sumN_nonneg fun i _ => sumN_nonneg fun k _ => (comeL_bd i k g l h).1

section
variable {m : Mt} {N A : Int} {P : Nat → Int} {sl : Int}

theorem Mt.In.all_ok (I : m.In N A P sl) {o : Od} (ho : o ∈ m.all) : ∃ h g s, at3 m h g s ∧ o ∈ m.bk h g s ∧ o.Ok m h g s := by
  obtain ⟨a, b, s, h1, h2, h3, h4⟩ := Mt.mem_all.1 ho
  exact ⟨a, b, s, ⟨h1, h2, h3⟩, h4, I.od a b s o h1 h2 h3 h4⟩

theorem Mt.In.held0 (I : m.In N A P sl) : 0 ≤ heldS m.T m.all := heldS_nonneg fun o ho => by
  obtain ⟨_, _, _, _, _, k⟩ := I.all_ok ho
  exact ⟨k.p, k.q⟩

theorem Mt.In.kept0 (I : m.In N A P sl) {g : Nat} (hg : g < m.G) : 0 ≤ sumN (fun k => keptS m.T (m.bk k g 1)) m.H := sumN_nonneg fun k hk => keptS_nonneg fun o ho => (I.od k g 1 o hk hg (by omega) ho).q

theorem Mt.In.come0 (I : m.In N A P sl) (g : Nat) : 0 ≤ comeS m.T m.H g m.ld := comeS_nonneg fun l hl => (I.ld l hl).2.2.2.1

theorem Mt.In.mo_le (I : m.In N A P sl) {t : Nat} (ht : t < m.T) : m.mo t ≤ m.money := by
  have h1 := I.held0
  have h2 := sumN_le (f := m.mo) (n := m.T) I.mo t ht
  have h3 := I.ho
  unfold Mt.money
  omega

theorem Mt.In.ho_le (I : m.In N A P sl) : m.ho ≤ m.money := by
  have h1 := I.held0
  have h2 := sumN_nonneg (f := m.mo) (n := m.T) I.mo
  unfold Mt.money
  omega

theorem Mt.In.pc_le (I : m.In N A P sl) {t h g : Nat} (ht : t < m.T) (hh : h < m.H) (hg : g < m.G) : m.pc t h g ≤ m.stock g := by
  have h1 := I.kept0 hg
  have h2 := I.come0 g
  have h3 := sumN_le (f := fun k => m.pc t k g) (n := m.H) (fun k hk => I.pc t k g ht hk hg) h hh
  have h4 := sumN_le (f := fun i => sumN (fun k => m.pc i k g) m.H) (n := m.T) (fun i hi => sumN_nonneg fun k hk => I.pc i k g hi hk hg) t ht
  unfold Mt.stock
  omega

theorem Mt.In.ok (I : m.In N A P sl) (hA : 0 ≤ A) (hP : ∀ g, g < m.G → 0 ≤ P g) : m.Ok N := by
  have hb := I.bN
  have hm := I.mon
  refine ⟨by omega, I.T1, I.T8, I.G1, I.G4, I.H1, I.H4, I.rt, fun t ht => ⟨I.mo t ht, ?_⟩, fun t h g ht hh hg => ⟨I.pc t h g ht hh hg, ?_⟩, I.l20, I.ld, I.a60, I.od, I.nu, ⟨I.ho, ?_⟩, I.tm⟩
  · have := I.mo_le ht; omega
  · have := I.pc_le ht hh hg
    have := I.stk g hg
    have := hP g hg
    omega
  · have := I.ho_le; omega

theorem Mt.In.pi_le (I : m.In N A P sl) (hs : 0 ≤ sl) {h g : Nat} (hh : h < m.H) (hg : g < m.G) : (0 ≤ m.pi h g ∧ m.pi h g ≤ 1000000000000) ∧ (0 ≤ m.am h g ∧ m.am h g ≤ 1000000000000000000) := by
  have h1 := I.pi h g hh hg
  have h2 := I.am h g hh hg
  have h3 := I.nu
  have h4 := I.bN
  omega
end

theorem Od.Ok.of {m m' : Mt} {h g s : Nat} {o : Od} (k : o.Ok m h g s) (hn : m.nu ≤ m'.nu) (hT : m'.T = m.T) : o.Ok m' h g s :=
  ⟨⟨k.id.1, Int.le_trans k.id.2 hn⟩, by rw [hT]; exact k.t, k.h, k.g, k.s, k.p, k.q, k.w⟩

theorem all_setBk (m : Mt) {h g s : Nat} (q : at3 m h g s) (os : List Od) : ((m.setBk h g s os).all.length : Int) = m.all.length + (os.length - (m.bk h g s).length) := by
  have k := adds_upH (adds_len (α := Od)) m.G m.bk h g s q.2.1 q.2.2 os m.H
  rw [if_pos q.1] at k
  exact k

theorem fee_mono {m : Mt} {h : Nat} (hr : 0 ≤ m.rt h) {a b : Int} (hab : a ≤ b) : m.fee h a ≤ m.fee h b := by
  unfold Mt.fee
  have := Int.mul_le_mul_of_nonneg_right hab hr
  omega
theorem fee_add (m : Mt) (h : Nat) (a b : Int) : m.fee h a + m.fee h b ≤ m.fee h (a + b) := by
  unfold Mt.fee
  rw [Int.add_mul]
  omega
theorem fee_le {m : Mt} {h : Nat} (hr : 0 ≤ m.rt h ∧ m.rt h ≤ 100) {a : Int} (ha : 0 ≤ a) : 0 ≤ m.fee h a ∧ m.fee h a ≤ a := by
  unfold Mt.fee
  have h1 := Int.mul_le_mul_of_nonneg_left hr.2 ha
  have h2 := Int.mul_nonneg ha hr.1
  omega
end

/- The plain market in the midst of a match. -/
section
theorem in_tb {m : Mt} {N A : Int} {P : Nat → Int} {sl : Int} (I : m.In N A P sl) {h g s : Nat} (q : at3 m h g s) {z : Od} {r : List Od} (hb : m.bk h g s = z :: r) : (releaseM (m.setBk h g s r) z.t.toNat h g s z).In N A P sl := by
  have zo := I.od h g s z q.1 q.2.1 q.2.2 (by rw [hb]; exact List.mem_cons_self)
  have zt := zo.t
  have hz : z.t.toNat < m.T := by omega
  have zp := zo.p
  have zq := zo.q
  have hm : (m.setBk h g s r).money = m.money + (heldS m.T r - heldS m.T (z :: r)) := by rw [money_setBk m q, hb]
  have h1 : heldS m.T (z :: r) = heldS m.T [z] + heldS m.T r := (adds_heldS _).cons z r
  have h2 := heldS_one zo.t
  have k1 : keptS m.T (z :: r) = keptS m.T [z] + keptS m.T r := (adds_keptS _).cons z r
  have k2 := keptS_one zo.t
  have hl := all_setBk m q r
  rw [hb] at hl
  simp only [List.length_cons] at hl
  have hod : ∀ a b c o', a < m.H → b < m.G → c < 2 → o' ∈ (m.setBk h g s r).bk a b c → o'.Ok m a b c := by
    intro a b c o' ha hb' hc ho
    by_cases e : a = h ∧ b = g ∧ c = s
    · obtain ⟨rfl, rfl, rfl⟩ := e
      have : o' ∈ r := by simpa [Mt.setBk] using ho
      exact I.od a b c o' ha hb' hc (by rw [hb]; exact List.mem_cons_of_mem _ this)
    · exact I.od a b c o' ha hb' hc (by simpa [Mt.setBk, e] using ho)
  have hpq := mul_le' (a := z.p) (b := z.q) (A := 100000) (B := 10000) (by omega) zp.2 (by omega) zq.2
  have a60 : (m.setBk h g s r).all.length ≤ 60 := by have := I.a60; omega
  by_cases e : s = 0
  · subst e
    have hmo := I.mo _ hz
    rw [zo.s] at h2
    simp only [Int.natCast_zero, if_true] at h2
    rw [releaseM, if_pos rfl]
    refine ⟨I.bN, I.T1, I.T8, I.G1, I.G4, I.H1, I.H4, I.rt, fun t ht => ?_, I.pc, I.l20, I.ld, a60, fun a b c o' ha hb' hc ho => (hod a b c o' ha hb' hc ho).of (Int.le_refl _) rfl, I.nu, I.ho, I.tm, ?_, fun g' hg' => ?_, fun a b ha hb' => ?_, fun a b ha hb' => ?_⟩
    · show 0 ≤ if t = z.t.toNat then m.mo z.t.toNat + z.p * z.q else m.mo t
      split
      · omega
      · exact I.mo t ht
    · rw [money_setMo _ _ (by exact hz), hm]
      show m.money + _ + (m.mo z.t.toNat + z.p * z.q - m.mo z.t.toNat) + A ≤ _
      have := I.mon
      omega
    · rw [stock_setMo, stock_setBk m q]
      have := I.stk g' hg'
      simp only [Nat.zero_ne_one, false_and, if_false]
      omega
    · have := I.pi a b ha hb'
      show 0 ≤ m.pi a b ∧ m.pi a b + 10000 * ((m.setBk h g 0 r).all.length + sl) ≤ 20000 * m.nu
      omega
    · have := I.am a b ha hb'
      show 0 ≤ m.am a b ∧ m.am a b + 1000000000 * ((m.setBk h g 0 r).all.length + sl) ≤ 2000000000 * m.nu
      omega
  · have s1 : s = 1 := by have := q.2.2; omega
    subst s1
    have hpc := I.pc _ _ _ hz q.1 q.2.1
    rw [zo.s] at h2
    simp only [Int.natCast_one, Int.one_ne_zero, if_false] at h2
    rw [releaseM, if_neg (by decide)]
    refine ⟨I.bN, I.T1, I.T8, I.G1, I.G4, I.H1, I.H4, I.rt, I.mo, fun a b c ha hb' hc => ?_, I.l20, I.ld, a60, fun a b c o' ha hb' hc ho => (hod a b c o' ha hb' hc ho).of (Int.le_refl _) rfl, I.nu, I.ho, I.tm, ?_, fun g' hg' => ?_, fun a b ha hb' => ?_, fun a b ha hb' => ?_⟩
    · show 0 ≤ if a = z.t.toNat ∧ b = h ∧ c = g then m.pc z.t.toNat h g + z.q else m.pc a b c
      split
      · omega
      · exact I.pc a b c ha hb' hc
    · rw [money_setPc, hm]
      have := I.mon
      omega
    · rw [stock_setPc _ _ _ _ (by exact hz) (by exact q.1), stock_setBk m q]
      have := I.stk g' hg'
      show _ + (if g' = g then m.pc z.t.toNat h g + z.q - m.pc z.t.toNat h g else 0) + _ ≤ _
      by_cases eg : g' = g
      · rw [if_pos eg, if_pos ⟨rfl, eg⟩, hb]
        omega
      · rw [if_neg eg, if_neg (fun f => eg f.2)]
        omega
    · have := I.pi a b ha hb'
      show 0 ≤ m.pi a b ∧ m.pi a b + 10000 * ((m.setBk h g 1 r).all.length + sl) ≤ 20000 * m.nu
      omega
    · have := I.am a b ha hb'
      show 0 ≤ m.am a b ∧ m.am a b + 1000000000 * ((m.setBk h g 1 r).all.length + sl) ≤ 2000000000 * m.nu
      omega

/-- in the midst of a match: what holds of the market and of the order that came -/
structure Mid (h g s : Nat) (N : Int) (m : Mt) (o : Od) : Prop where
  I : m.In N (airM o) (airP o) (if 0 < o.q then 2 else 0)
  q : at3 m h g s
  eh : o.h = h
  eg : o.g = g
  es : o.s = otherS s
  t : 0 ≤ o.t ∧ o.t < m.T
  p : 1 ≤ o.p ∧ o.p ≤ 100000
  n : 0 ≤ o.q ∧ o.q ≤ 10000
  fe : s = 1 → m.fee h (o.p * o.q) ≤ m.mo o.t.toNat

theorem airM_nonneg {o : Od} (p : 1 ≤ o.p) (n : 0 ≤ o.q) : 0 ≤ airM o := by
  unfold airM
  split
  · exact Int.mul_nonneg (by omega) n
  · exact Int.le_refl _
theorem airP_nonneg {o : Od} (n : 0 ≤ o.q) (g : Nat) : 0 ≤ airP o g := by
  unfold airP
  split <;> omega

theorem Mid.ok {h g s : Nat} {N : Int} {m : Mt} {o : Od} (M : Mid h g s N m o) : m.Ok N := M.I.ok (airM_nonneg M.p.1 M.n.1) (fun g _ => airP_nonneg M.n.1 g)

theorem Mid.tb {h g s : Nat} {N : Int} {m : Mt} {o : Od} (M : Mid h g s N m o) {z : Od} {r : List Od} (hb : m.bk h g s = z :: r) : Mid h g s N (releaseM (m.setBk h g s r) z.t.toNat h g s z) o := by
  have zo := M.I.od h g s z M.q.1 M.q.2.1 M.q.2.2 (by rw [hb]; exact List.mem_cons_self)
  have hT : (releaseM (m.setBk h g s r) z.t.toNat h g s z).T = m.T := by unfold releaseM; split <;> rfl
  refine ⟨in_tb M.I M.q hb, ?_, M.eh, M.eg, M.es, by rw [hT]; exact M.t, M.p, M.n, fun e => ?_⟩
  · have := M.q
    unfold releaseM
    split <;> exact this
  · subst e
    rw [releaseM, if_neg (by decide)]
    exact M.fe rfl

section
variable {h g s : Nat} {N : Int} {m : Mt} {o z : Od} {r : List Od}

/-- what a trade of n pieces leaves in all -/
theorem one_money (M : Mid h g s N m o) (hb : m.bk h g s = z :: r) (n : Int) : (oneM m h g s o z n).money + airM { o with q := o.q - n } = m.money + airM o := by
  have zo := M.I.od h g s z M.q.1 M.q.2.1 M.q.2.2 (by rw [hb]; exact List.mem_cons_self)
  have zt := zo.t
  have ot := M.t
  have h1 : heldS m.T (z :: r) = heldS m.T [z] + heldS m.T r := (adds_heldS _).cons z r
  have h2 := heldS_one zo.t
  have h3 : heldS m.T ({ z with q := z.q - n } :: r) = heldS m.T [{ z with q := z.q - n }] + heldS m.T r := (adds_heldS _).cons _ r
  have h4 := heldS_one (o := { z with q := z.q - n }) zo.t
  have es := M.es
  have zs := zo.s
  by_cases e : s = 1
  · subst e
    rw [oneM, if_pos rfl, money_trade m M.q (by omega) (by omega) (by omega), hb]
    simp only [List.set_cons_zero]
    have z0 : ¬ z.s = 0 := by omega
    have o0 : o.s = 0 := by rw [es]; rfl
    rw [if_neg z0] at h2
    rw [if_neg z0] at h4
    have e2 : o.p * (o.q - n) = o.p * o.q - o.p * n := Int.mul_sub _ _ _
    simp only [airM, o0, if_true, e2]
    omega
  · have s0 : s = 0 := by have := M.q.2.2; omega
    subst s0
    rw [oneM, if_neg (by decide), money_trade m M.q (by omega) (by omega) (by omega), hb]
    simp only [List.set_cons_zero]
    have z0 : z.s = 0 := by omega
    have o0 : ¬ o.s = 0 := by rw [es]; decide
    rw [if_pos z0] at h2
    rw [if_pos z0] at h4
    have e2 : z.p * (z.q - n) = z.p * z.q - z.p * n := Int.mul_sub _ _ _
    simp only [e2] at h4
    simp only [airM, o0, if_false]
    omega

theorem one_stock (M : Mid h g s N m o) (hb : m.bk h g s = z :: r) (n : Int) (g' : Nat) : (oneM m h g s o z n).stock g' + airP { o with q := o.q - n } g' = m.stock g' + airP o g' := by
  have zo := M.I.od h g s z M.q.1 M.q.2.1 M.q.2.2 (by rw [hb]; exact List.mem_cons_self)
  have zt := zo.t
  have ot := M.t
  have h1 : keptS m.T (z :: r) = keptS m.T [z] + keptS m.T r := (adds_keptS _).cons z r
  have h2 := keptS_one zo.t
  have h3 : keptS m.T ({ z with q := z.q - n } :: r) = keptS m.T [{ z with q := z.q - n }] + keptS m.T r := (adds_keptS _).cons _ r
  have h4 := keptS_one (o := { z with q := z.q - n }) zo.t
  simp only at h4
  have es := M.es
  have eg := M.eg
  by_cases e : s = 1
  · subst e
    rw [oneM, if_pos rfl, stock_trade m M.q (by omega), hb]
    simp only [List.set_cons_zero]
    have o0 : ¬ o.s = 1 := by rw [es]; decide
    simp only [airP, o0, false_and, if_false]
    by_cases k : g' = g
    · simp only [k, if_true, and_self]
      omega
    · simp only [k, if_false, and_false]
      omega
  · have s0 : s = 0 := by have := M.q.2.2; omega
    subst s0
    rw [oneM, if_neg (by decide), stock_trade m M.q (by omega)]
    have o0 : o.s = 1 := by rw [es]; rfl
    simp only [airP, o0, true_and]
    by_cases k : g' = g
    · have kk : o.g = (g' : Int) := by omega
      simp only [k, if_true, Nat.zero_ne_one, false_and, if_false]
      rw [if_pos (by omega), if_pos (by omega)]
      omega
    · simp only [k, if_false, Nat.zero_ne_one, false_and]
      rw [if_neg (by omega), if_neg (by omega)]
      omega

theorem one_mo (hne : z.t.toNat ≠ o.t.toNat) (n : Int) (t : Nat) : (oneM m h g s o z n).mo t =
    if s = 1 then (if t = o.t.toNat then m.mo o.t.toNat + (o.p * n - z.p * n) - m.fee h (z.p * n) else if t = z.t.toNat then m.mo z.t.toNat + z.p * n else m.mo t)
    else (if t = o.t.toNat then m.mo o.t.toNat + z.p * n - m.fee h (z.p * n) else m.mo t) := by
  by_cases e : s = 1
  · subst e
    rw [oneM, if_pos rfl, if_pos rfl, tradeM_buy m (Ne.symm hne)]
    simp only [Mt.setMo, Mt.setPc, Mt.setBk]
    by_cases k1 : t = o.t.toNat
    · rw [if_pos k1, if_pos k1]
    · rw [if_neg k1, if_neg k1]
      split <;> simp_all
  · rw [oneM, if_neg e, if_neg e, tradeM_sell m hne]
    simp only [Mt.setMo, Mt.setPc, Mt.setBk]
    by_cases k1 : t = o.t.toNat
    · rw [if_pos k1, if_pos k1]
    · rw [if_neg k1, if_neg k1, if_neg k1]
      split <;> simp_all

theorem one_pc (n : Int) (a b c : Nat) : (oneM m h g s o z n).pc a b c = if a = (if s = 1 then o.t.toNat else z.t.toNat) ∧ b = h ∧ c = g then m.pc a b c + n else m.pc a b c := by
  by_cases e : s = 1
  · subst e
    rw [oneM, if_pos rfl, if_pos rfl]
    simp only [tradeM, Mt.setMo, Mt.setPc, Mt.setBk]
    by_cases k : a = o.t.toNat ∧ b = h ∧ c = g
    · rw [if_pos k]
      obtain ⟨rfl, rfl, rfl⟩ := k
      simp
    · rw [if_neg k, if_neg k]
  · rw [oneM, if_neg e, if_neg e]
    simp only [tradeM, Mt.setMo, Mt.setPc, Mt.setBk]
    by_cases k : a = z.t.toNat ∧ b = h ∧ c = g
    · rw [if_pos k]
      obtain ⟨rfl, rfl, rfl⟩ := k
      simp
    · rw [if_neg k, if_neg k]

theorem one_rest (n : Int) : (oneM m h g s o z n).ho = m.ho + m.fee h (z.p * n) ∧ (oneM m h g s o z n).nu = m.nu ∧ (oneM m h g s o z n).ld = m.ld ∧ (oneM m h g s o z n).tm = m.tm ∧ (oneM m h g s o z n).rt = m.rt ∧ (oneM m h g s o z n).pi = m.pi ∧ (oneM m h g s o z n).am = m.am ∧ (oneM m h g s o z n).la = m.la := by
  unfold oneM
  split <;> exact ⟨rfl, rfl, rfl, rfl, rfl, rfl, rfl, rfl⟩

theorem one_bk (hs : s < 2) (n : Int) : (oneM m h g s o z n).bk = (m.setBk h g s ((m.bk h g s).set 0 { z with q := z.q - n })).bk := by
  by_cases e : s = 1
  · subst e
    rw [oneM, if_pos rfl]
    rfl
  · have : s = 0 := by omega
    subst this
    rw [oneM, if_neg (by decide)]
    rfl
end
end

end Go.Proofs.YtcfoobhihhndjaaGreat
