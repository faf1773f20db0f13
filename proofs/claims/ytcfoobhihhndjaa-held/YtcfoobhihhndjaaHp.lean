/- What is held, by the orders that wait. -/
import Derived.Test.YtcfoobhihhndjaaRd
namespace Go.Proofs.Ytcfoobhihhndjaa
open Go.RowKit Go.Sort

/-- money that orders to buy want -/
def wantM : List Od → Int
  | [] => 0
  | o :: r => (if o.s = 0 then o.p * o.q else 0) + wantM r
/-- pieces that orders to sell of a good in a hall want -/
def wantP (h g : Nat) : List Od → Int
  | [] => 0
  | o :: r => (if o.s ≠ 0 ∧ o.h = h ∧ o.g = g then o.q else 0) + wantP h g r

theorem wantM_app : ∀ a b, wantM (a ++ b) = wantM a + wantM b
  | [], b => by simp [wantM]
  | o :: r, b => by simp only [List.cons_append, wantM, wantM_app r b]; omega
theorem wantP_app (h g : Nat) : ∀ a b, wantP h g (a ++ b) = wantP h g a + wantP h g b
  | [], b => by simp [wantP]
  | o :: r, b => by simp only [List.cons_append, wantP, wantP_app h g r b]; omega
theorem adds_wantM : Adds wantM := ⟨rfl, wantM_app⟩
theorem adds_wantP (h g : Nat) : Adds (wantP h g) := ⟨rfl, wantP_app h g⟩

theorem Adds.perm {α : Type} {φ : List α → Int} (A : Adds φ) {a b : List α} (h : a.Perm b) : φ a = φ b := by
  induction h with
  | nil => rfl
  | @cons x l1 l2 _ ih => rw [A.cons x l1, A.cons x l2, ih]
  | swap x y l => rw [A.cons y (x :: l), A.cons x l, A.cons x (y :: l), A.cons y l]; omega
  | trans _ _ h k => exact h.trans k
theorem Adds.take {α : Type} {φ : List α → Int} (A : Adds φ) {l : List α} {k : Nat} (hk : k < l.length) : φ (l.take (k + 1)) = φ (l.take k) + φ [l[k]] := by
  rw [List.take_add_one, A.app, List.getElem?_eq_getElem hk]; rfl

theorem wantM_of (t : Int) : ∀ l : List Od, wantM (ofT t l) = heldL t l
  | [] => rfl
  | o :: r => by
    have ih := wantM_of t r
    unfold ofT at ih ⊢
    by_cases e : o.t = t
    · rw [List.filter_cons_of_pos (by simpa using e)]
      simp only [wantM, heldL, ih, e, true_and]
    · rw [List.filter_cons_of_neg (by simpa using e)]
      simp only [heldL, ih, e, false_and, if_false]
      omega

theorem wantP_of (t : Int) (h g : Nat) : ∀ l : List Od, (∀ o ∈ l, o.s ≠ 0 ∧ o.h = h ∧ o.g = g) → wantP h g (ofT t l) = keptL t l
  | [], _ => rfl
  | o :: r, ho => by
    have ih := wantP_of t h g r fun x hx => ho x (List.mem_cons_of_mem _ hx)
    have h1 := ho o (List.mem_cons_self ..)
    unfold ofT at ih ⊢
    by_cases e : o.t = t
    · rw [List.filter_cons_of_pos (by simpa using e)]
      simp only [wantP, keptL, ih, e]
      rw [if_pos h1]
      simp
    · rw [List.filter_cons_of_neg (by simpa using e)]
      simp only [keptL, ih, e, if_false]
      omega
theorem wantP_none (h g : Nat) : ∀ l : List Od, (∀ o ∈ l, ¬ (o.s ≠ 0 ∧ o.h = h ∧ o.g = g)) → wantP h g l = 0
  | [], _ => rfl
  | o :: r, ho => by
    simp only [wantP, if_neg (ho o (List.mem_cons_self ..)), wantP_none h g r fun x hx => ho x (List.mem_cons_of_mem _ hx)]; omega

theorem adds_of {φ : List Od → Int} (A : Adds φ) (t : Int) : Adds (fun l => φ (ofT t l)) := ⟨A.nil, fun a b => by unfold ofT; rw [List.filter_append, A.app]⟩

/-- what a trader's orders to sell want is what is kept -/
theorem wantP_kept {m : Mt} {N : Int} (I : m.Inv N) (t : Int) {h g : Nat} (hh : h < m.H) (hg : g < m.G) : wantP h g (ofT t m.all) = m.kept t h g := by
  have A := adds_of (adds_wantP h g) t
  have e := adds_upH A m.G m.bk h g 1 hg (by omega) [] m.H
  rw [if_pos hh] at e
  have e0 : wantP h g (ofT t (upH m.G (fun a b c => if a = h ∧ b = g ∧ c = 1 then [] else m.bk a b c) m.H)) = 0 := by
    refine wantP_none h g _ fun o ho => ?_
    obtain ⟨a, b, c, h1, h2, h3, h4⟩ := mem_upH.1 ((List.mem_filter.1 ho).1)
    split at h4
    · cases h4
    · rename_i q
      have k := I.od a b c o h1 h2 h3 h4
      rintro ⟨k1, k2, k3⟩
      refine q ⟨?_, ?_, ?_⟩
      · have := k.h; omega
      · have := k.g; omega
      · have := k.s; omega
  have e1 : wantP h g (ofT t (m.bk h g 1)) = keptL t (m.bk h g 1) := wantP_of t h g _ fun o ho => by
    have k := I.od h g 1 o hh hg (by omega) ho
    exact ⟨by have := k.s; omega, k.h, k.g⟩
  have e2 : wantP h g (ofT t ([] : List Od)) = 0 := rfl
  show wantP h g (ofT t (upH m.G m.bk m.H)) = keptL t (m.bk h g 1)
  omega

/-- a list of a trader's orders, as Orders tells it -/
structure Told (m : Mt) (t : Int) (l : List Od) : Prop where
  pm : l.Perm (ofT t m.all)
  up : l.Pairwise fun a b => a.id < b.id
  mem : ∀ o, o ∈ l ↔ (o ∈ m.all ∧ o.t = t)

theorem Mt.Jn.told {m : Mt} (J : m.Jn) {t : Int} {l : List Od} (h1 : l.Perm (ofT t m.all)) (h2 : l.Pairwise fun a b => a.id ≤ b.id) : Told m t l := by
  refine ⟨h1, ?_, fun o => ?_⟩
  · have h3 : l.Pairwise fun a b => a.id ≠ b.id := pair_of_cnt fun n => by
      rw [cntI_perm h1]
      have h4 := cntI_sub n (show (ofT t m.all).Sublist m.all from List.filter_sublist)
      have h5 := J.ids n
      omega
    exact (h2.and h3).imp fun {a b} h => by have := h.1; have := h.2; omega
  · rw [h1.mem_iff]
    unfold ofT
    simp [List.mem_filter]

end Go.Proofs.Ytcfoobhihhndjaa
