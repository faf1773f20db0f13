/- What each call of a market does, in plain words, and how its memory turns. -/
import Derived.Test.YtcbfmolebomkdaaMk
namespace Go.Proofs.Ytcbfmolebomkdaa
open Go.RowKit

def okI (n : Nat) (t : Int) : Prop := 0 ≤ t ∧ t < n
instance (n : Nat) (t : Int) : Decidable (okI n t) := by unfold okI; exact inferInstance
def okN (x B : Int) : Prop := 1 ≤ x ∧ x ≤ B
instance (x B : Int) : Decidable (okN x B) := by unfold okN; exact inferInstance

def sumMo (f : Nat → Int) : Nat → Int
  | 0 => 0
  | k + 1 => sumMo f k + f k

theorem sumMo_bd (f : Nat → Int) (B : Int) (T : Nat) (h : ∀ t, t < T → 0 ≤ f t ∧ f t ≤ B) : 0 ≤ sumMo f T ∧ sumMo f T ≤ B * T := by
  induction T with
  | zero => simp [sumMo]
  | succ k ih =>
    have h1 := ih fun t ht => h t (by omega)
    have h2 := h k (by omega)
    have e : B * ((k + 1 : Nat) : Int) = B * (k : Int) + B := by rw [Int.natCast_add, Int.mul_add]; simp
    simp only [sumMo]
    rw [e]
    omega

theorem le_sumMo (f : Nat → Int) (T : Nat) (h : ∀ t, t < T → 0 ≤ f t) (t : Nat) (ht : t < T) : f t ≤ sumMo f T := by
  induction T with
  | zero => omega
  | succ k ih =>
    have h0 : 0 ≤ sumMo f k := by
      clear ih ht
      have : ∀ j, j ≤ k → 0 ≤ sumMo f j := by
        intro j
        induction j with
        | zero => simp [sumMo]
        | succ j ih => intro hj; have := ih (by omega); have := h j (by omega); simp only [sumMo]; omega
      exact this k (Nat.le_refl _)
    have hk := h k (by omega)
    simp only [sumMo]
    by_cases e : t = k
    · subst e; omega
    · have := ih (fun t ht => h t (by omega)) (by omega); omega

def rowTo (m : Mk) (g i : Nat) : Nat → Int
  | 0 => 0
  | k + 1 => rowTo m g i k + (m.pc i k g + come i k g m.ld)
def totTo (m : Mk) (g : Nat) : Nat → Int
  | 0 => 0
  | i + 1 => totTo m g i + rowTo m g i m.H

def Mk.setMo (m : Mk) (k : Nat) (x : Int) : Mk := { m with mo := fun i => if i = k then x else m.mo i }
def Mk.setPc (m : Mk) (t h g : Nat) (x : Int) : Mk := { m with pc := fun i j k => if i = t ∧ j = h ∧ k = g then x else m.pc i j k }

def payE (m : Mk) (t x : Int) : Int := if ¬ okI m.T t then 2 else if ¬ okN x 1000000000000 then 5 else if 1000000000000 < x + sumMo m.mo m.T then 8 else 0
def payM (m : Mk) (t x : Int) : Mk := if payE m t x = 0 then m.setMo t.toNat (m.mo t.toNat + x) else m
def drawE (m : Mk) (t x : Int) : Int := if ¬ okI m.T t then 2 else if ¬ okN x 1000000000000 then 5 else if m.mo t.toNat < x then 6 else 0
def drawM (m : Mk) (t x : Int) : Mk := if drawE m t x = 0 then m.setMo t.toNat (m.mo t.toNat - x) else m
def lotsE (m : Mk) (t h g n : Int) : Int := if ¬ okI m.T t then 2 else if ¬ okI m.H h then 3 else if ¬ okI m.G g then 4 else if ¬ okN n 10000 then 5 else 0
def bringE (m : Mk) (t h g n : Int) : Int := if lotsE m t h g n ≠ 0 then lotsE m t h g n else if 1000000 < n + totTo m g.toNat m.T then 8 else 0
def bringM (m : Mk) (t h g n : Int) : Mk := if bringE m t h g n = 0 then m.setPc t.toNat h.toNat g.toNat (m.pc t.toNat h.toNat g.toNat + n) else m
def takeE (m : Mk) (t h g n : Int) : Int := if lotsE m t h g n ≠ 0 then lotsE m t h g n else if m.pc t.toNat h.toNat g.toNat < n then 7 else 0
def takeM (m : Mk) (t h g n : Int) : Mk := if takeE m t h g n = 0 then m.setPc t.toNat h.toNat g.toNat (m.pc t.toNat h.toNat g.toNat - n) else m
def far (a b : Int) : Int := if b < a then a - b else b - a
def shipE (m : Mk) (t f o g n : Int) : Int :=
  if ¬ okI m.T t then 2 else if ¬ okI m.H f ∨ ¬ okI m.H o ∨ f = o then 3 else if ¬ okI m.G g then 4 else if ¬ okN n 10000 then 5 else if m.pc t.toNat f.toNat g.toNat < n then 7 else if 20 ≤ m.ld.length then 8 else 0
def shipM (m : Mk) (t f o g n : Int) : Mk :=
  if shipE m t f o g n = 0 then { m.setPc t.toNat f.toNat g.toNat (m.pc t.toNat f.toNat g.toNat - n) with ld := m.ld ++ [⟨t, o, g, n, m.tm + 2 * far f o⟩] } else m
def tickE (m : Mk) : Int := if 1000000000 ≤ m.tm then 8 else 0
/-- loads that come at a time: the pieces; those that are still under way -/
def landM (m : Mk) (now : Int) : List Ld → Mk
  | [] => m
  | l :: r => landM (if now < l.d then m else m.setPc l.t.toNat l.h.toNat l.g.toNat (m.pc l.t.toNat l.h.toNat l.g.toNat + l.n)) now r
def stay (now : Int) (ls : List Ld) : List Ld := ls.filter fun l => decide (now < l.d)
def tickM (m : Mk) : Mk := if tickE m = 0 then { landM m (m.tm + 1) m.ld with ld := stay (m.tm + 1) m.ld, tm := m.tm + 1 } else m

theorem landM_append (m : Mk) (now : Int) (a b : List Ld) : landM m now (a ++ b) = landM (landM m now a) now b := by
  induction a generalizing m with
  | nil => rfl
  | cons x a ih => simp only [List.cons_append, landM, ih]

theorem landM_same (m : Mk) (now : Int) (a : List Ld) : (landM m now a).T = m.T ∧ (landM m now a).G = m.G ∧ (landM m now a).H = m.H ∧ (landM m now a).mo = m.mo ∧ (landM m now a).ld = m.ld ∧ (landM m now a).tm = m.tm := by
  induction a generalizing m with
  | nil => simp [landM]
  | cons x a ih =>
    simp only [landM]
    have := ih (if now < x.d then m else m.setPc x.t.toNat x.h.toNat x.g.toNat (m.pc x.t.toNat x.h.toNat x.g.toNat + x.n))
    by_cases h : now < x.d
    · simpa [h] using this
    · simpa [h, Mk.setPc] using this

theorem lot_inj {t h g t' h' g' H G : Nat} (hh : h < H) (hh' : h' < H) (hg : g < G) (hg' : g' < G) (e : (t * H + h) * G + g = (t' * H + h') * G + g') : t = t' ∧ h = h' ∧ g = g' := by
  have e1 : t * H + h = t' * H + h' := by
    have a : ((t * H + h) * G + g) / G = ((t' * H + h') * G + g') / G := by rw [e]
    have hG : 0 < G := by omega
    rw [Nat.mul_comm _ G, Nat.mul_comm _ G, Nat.mul_add_div hG, Nat.mul_add_div hG, Nat.div_eq_of_lt hg, Nat.div_eq_of_lt hg'] at a
    simpa using a
  have e2 : g = g' := by rw [e1] at e; omega
  have e3 : t = t' := by
    have a : (t * H + h) / H = (t' * H + h') / H := by rw [e1]
    have hH : 0 < H := by omega
    rw [Nat.mul_comm _ H, Nat.mul_comm _ H, Nat.mul_add_div hH, Nat.mul_add_div hH, Nat.div_eq_of_lt hh, Nat.div_eq_of_lt hh'] at a
    simpa using a
  subst e3
  exact ⟨rfl, by omega, e2⟩

theorem lot_lt {t h g T H G : Nat} (ht : t < T) (hh : h < H) (hg : g < G) : (t * H + h) * G + g < T * G * H := by
  have h1 : t * H + h + 1 ≤ T * H := by
    have : (t + 1) * H ≤ T * H := Nat.mul_le_mul_right _ ht
    rw [Nat.add_mul] at this
    omega
  have h2 : (t * H + h + 1) * G ≤ T * H * G := Nat.mul_le_mul_right _ h1
  have h3 : T * H * G = T * G * H := by rw [Nat.mul_assoc, Nat.mul_comm H G, ← Nat.mul_assoc]
  rw [Nat.add_mul] at h2
  omega

theorem RefRep.setMo {w : World} {L : RL} {m : Mk} (h : RefRep w L m) (k : Nat) (hk : k < m.T) (x : Int) : RefRep (w.setCell ⟨L.mb, k, none⟩ (.int .i64 x)) L (m.setMo k x) := by
  have oc : ∀ {o : Nat} {v : Value}, Own w ⟨L.c, o, none⟩ v → Own (w.setCell ⟨L.mb, k, none⟩ (.int .i64 x)) ⟨L.c, o, none⟩ v := fun hv => hv.set_other (by simp [h.n1]) rfl rfl _
  refine ⟨oc h.cT, oc h.cG, oc h.cR, oc h.cM, oc h.cP, oc h.cW, oc h.cL, oc h.cF, oc h.cTm, fun t ht => ?_, fun t i g ht hi hg => (h.pc t i g ht hi hg).set_other (by simp [Ne.symm h.n3]) rfl rfl _,
    ownsRow_setCell_other h.ld h.n5 _, h.n1, h.n2, h.n3, h.n4, h.n5, h.n6⟩
  by_cases e : t = k
  · subst e
    simpa [Mk.setMo] using (h.mo t hk).set rfl (.int .i64 x)
  · simpa [Mk.setMo, e] using (h.mo t ht).set_other (q := ⟨L.mb, k, none⟩) (by intro q; injection q with _ q _; exact e q) rfl rfl (.int .i64 x)

theorem RefRep.setPc {w : World} {L : RL} {m : Mk} (h : RefRep w L m) (t i g : Nat) (ht : t < m.T) (hi : i < m.H) (hg : g < m.G) (x : Int) : RefRep (w.setCell ⟨L.pb, (t * m.H + i) * m.G + g, none⟩ (.int .i64 x)) L (m.setPc t i g x) := by
  have oc : ∀ {o : Nat} {v : Value}, Own w ⟨L.c, o, none⟩ v → Own (w.setCell ⟨L.pb, (t * m.H + i) * m.G + g, none⟩ (.int .i64 x)) ⟨L.c, o, none⟩ v := fun hv => hv.set_other (by simp [h.n2]) rfl rfl _
  refine ⟨oc h.cT, oc h.cG, oc h.cR, oc h.cM, oc h.cP, oc h.cW, oc h.cL, oc h.cF, oc h.cTm, fun t ht => (h.mo t ht).set_other (by simp [h.n3]) rfl rfl _, fun t' i' g' ht' hi' hg' => ?_,
    ownsRow_setCell_other h.ld h.n6 _, h.n1, h.n2, h.n3, h.n4, h.n5, h.n6⟩
  by_cases e : t' = t ∧ i' = i ∧ g' = g
  · obtain ⟨rfl, rfl, rfl⟩ := e
    simpa [Mk.setPc] using (h.pc t' i' g' ht hi hg).set rfl (.int .i64 x)
  · have := (h.pc t' i' g' ht' hi' hg').set_other (q := ⟨L.pb, (t * m.H + i) * m.G + g, none⟩) (fun e' => e (lot_inj (H := m.H) (G := m.G) hi' hi hg' hg (by simpa using e'))) rfl rfl (.int .i64 x)
    simpa [Mk.setPc, e] using this

theorem RefRep.setTm {w : World} {L : RL} {m : Mk} (h : RefRep w L m) (x : Int) : RefRep (w.setCell ⟨L.c, 12, none⟩ (.int .i64 x)) L { m with tm := x } := by
  have oc : ∀ {o : Nat} {v : Value}, o ≠ 12 → Own w ⟨L.c, o, none⟩ v → Own (w.setCell ⟨L.c, 12, none⟩ (.int .i64 x)) ⟨L.c, o, none⟩ v := fun ho hv => hv.set_other (by intro q; injection q with _ q _; exact ho q) rfl rfl _
  exact ⟨oc (by decide) h.cT, oc (by decide) h.cG, oc (by decide) h.cR, oc (by decide) h.cM, oc (by decide) h.cP, oc (by decide) h.cW, oc (by decide) h.cL, oc (by decide) h.cF, h.cTm.set rfl _, fun t ht => (h.mo t ht).set_other (by simp [Ne.symm h.n1]) rfl rfl _,
    fun t i g ht hi hg => (h.pc t i g ht hi hg).set_other (by simp [Ne.symm h.n2]) rfl rfl _, ownsRow_setCell_other h.ld h.n4 _, h.n1, h.n2, h.n3, h.n4, h.n5, h.n6⟩

/-- the loads' slice stored anew; its row lies elsewhere than the rest -/
theorem RefRep.setLd {w : World} {L : RL} {m : Mk} {lv : Value} (h : RefRep w L m) (ls : List Ld) (v : Value) (hr : w.ownsRow 0 130 5 v ls.length (ldCells ls)) (h4 : v.ownBlock ≠ some L.c) (h5 : v.ownBlock ≠ some L.mb) (h6 : v.ownBlock ≠ some L.pb) (hv : lv = v) :
    RefRep (w.setCell ⟨L.c, 6, none⟩ lv) { L with lv := v } { m with ld := ls } := by
  subst hv
  have oc : ∀ {o : Nat} {u : Value}, o ≠ 6 → Own w ⟨L.c, o, none⟩ u → Own (w.setCell ⟨L.c, 6, none⟩ lv) ⟨L.c, o, none⟩ u := fun ho hv => hv.set_other (by intro q; injection q with _ q _; exact ho q) rfl rfl _
  exact ⟨oc (by decide) h.cT, oc (by decide) h.cG, oc (by decide) h.cR, oc (by decide) h.cM, oc (by decide) h.cP, oc (by decide) h.cW, h.cL.set rfl _, oc (by decide) h.cF, oc (by decide) h.cTm, fun t ht => (h.mo t ht).set_other (by simp [Ne.symm h.n1]) rfl rfl _,
    fun t i g ht hi hg => (h.pc t i g ht hi hg).set_other (by simp [Ne.symm h.n2]) rfl rfl _, ownsRow_setCell_other hr h4 _, h.n1, h.n2, h.n3, h4, h5, h6⟩

end Go.Proofs.Ytcbfmolebomkdaa
