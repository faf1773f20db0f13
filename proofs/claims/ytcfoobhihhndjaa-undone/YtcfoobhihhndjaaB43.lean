/- A market that is opened: what there is in it. -/
import Derived.Test.YtcfoobhihhndjaaB12
import Derived.Test.YtcfoobhihhndjaaB34
import Derived.Test.YtcfoobhihhndjaaB41
import Derived.Test.YtcfoobhihhndjaaB42
namespace Go.Proofs.Ytcfoobhihhndjaa

section
open Go.RowKit Go.Sort

theorem sumN_const (x : Int) : ∀ n, sumN (fun _ => x) n = x * n
  | 0 => by simp [sumN]
  | n + 1 => by rw [sumN, sumN_const x n, Int.natCast_add, Int.mul_add]; simp

theorem ful_money (rs : List Int) : (fulM rs).money = 4000000 := by
  have e1 : sumN (fulM rs).mo 4 = sumN (fun _ => 1000000) 4 := sumN_congr fun i hi => fulM_mo hi
  have e2 : (fulM rs).all = [] := filM_all _ _ _ _ _
  show (fulM rs).ho + sumN (fulM rs).mo 4 + heldS 4 (fulM rs).all = 4000000
  rw [e1, e2]
  rfl
theorem ful_stock (rs : List Int) (g : Nat) (hg : g < 2) : (fulM rs).stock g = 4000 * rs.length := by
  have e1 : sumN (fun i => sumN (fun k => (fulM rs).pc i k g) rs.length) 4 = sumN (fun _ => 1000 * (rs.length : Int)) 4 := sumN_congr fun i hi => by
    rw [← sumN_const]
    exact sumN_congr fun k hk => fulM_pc hi hk hg
  have e2 : sumN (fun k => keptS 4 ((fulM rs).bk k g 1)) rs.length = sumN (fun _ => 0) rs.length := sumN_congr fun k _ => rfl
  have e3 : comeS 4 rs.length g (fulM rs).ld = sumN (fun _ => sumN (fun _ => 0) rs.length) 4 := rfl
  show sumN (fun i => sumN (fun k => (fulM rs).pc i k g) rs.length) 4 + sumN (fun k => keptS 4 ((fulM rs).bk k g 1)) rs.length + comeS 4 rs.length g (fulM rs).ld = 4000 * rs.length
  rw [e1, e2, e3, sumN_const, sumN_const, sumN_const]
  simp
  omega

theorem ful_inv (rs : List Int) : (fulM (openR rs)).Inv 2000000 := by
  obtain ⟨h1, h3, hr⟩ := openR_ok rs
  have I0 := newM_inv h1 (by omega) hr (N := 2000000) (by decide)
  have I1 : ∀ t, t ≤ 4 → (filM (openR rs) t 0 0 False).Inv 2000000 := by
    intro t
    induction t with
    | zero => intro _; rw [filM_start]; exact I0
    | succ t ih =>
      intro ht
      have k0 := ih (by omega)
      have k1 : (filM (openR rs) t 0 0 True).Inv 2000000 := by rw [← (filM_pay (rs := openR rs) (t := t) (by omega)).2]; exact k0.pay _ _
      have k2 : ∀ h, h ≤ (openR rs).length → (filM (openR rs) t h 0 True).Inv 2000000 := by
        intro h
        induction h with
        | zero => intro _; exact k1
        | succ h ih2 =>
          intro hh
          have a0 := ih2 (by omega)
          have a1 : (filM (openR rs) t h 1 True).Inv 2000000 := by rw [← (filM_bring (rs := openR rs) (t := t) (h := h) (g := 0) (by omega) (by omega) h3 (by omega)).2]; exact a0.bring _ _ _ _
          have a2 : (filM (openR rs) t h 2 True).Inv 2000000 := by rw [← (filM_bring (rs := openR rs) (t := t) (h := h) (g := 1) (by omega) (by omega) h3 (by omega)).2]; exact a1.bring _ _ _ _
          rw [← filM_hall]; exact a2
      rw [← filM_trader]; exact k2 _ (Nat.le_refl _)
  exact I1 4 (Nat.le_refl _)

theorem open_sums (rs : List Int) : (openM (openR rs)).money = 4000000 ∧ ∀ g, g < 2 → (openM (openR rs)).stock g = 4000 * (openR rs).length := by
  obtain ⟨h1, h3, hr⟩ := openR_ok rs
  have I4 := ful_inv rs
  have S1 := place_sums I4 (by show (0 : Int) + 1 ≤ 2000000; decide) sellO
  have I5 : (soldM (openR rs)).Inv 2000000 := by rw [← (sold h1).2.2.2]; exact I4.place (by show (0 : Int) + 1 ≤ 2000000; decide) _
  rw [(sold h1).2.2.2] at S1
  have S2 := place_sums I5 (by show (1 : Int) + 1 ≤ 2000000; decide) buyO
  exact ⟨(S2.1.trans S1.1).trans (ful_money _), fun g hg => ((S2.2 g).trans (S1.2 g)).trans (ful_stock _ g hg)⟩

/-- what is known of a market behind k steps -/
structure Stood (rs : List Int) (k : Nat) (m : Mt) : Prop where
  inv : m.Inv 2000000
  jn : m.Jn
  nu : m.nu ≤ 2 + k
  T : m.T = 4
  G : m.G = 2
  H : m.H = rs.length
  rt : ∀ h, h < rs.length → rs[h]? = some (m.rt h)

theorem stood_open (rs : List Int) : Stood (openR rs) 0 (openM (openR rs)) := by
  obtain ⟨I, O⟩ := openM_inv rs
  refine ⟨I, ?_, by rw [O.nu]; omega, O.T, O.G, O.H, O.rt⟩
  have e : (openM (openR rs)).keys = fun _ _ _ => [] := by funext a b c; unfold Mt.keys; rw [O.bk]; rfl
  have z : ∀ G H, upH G (fun _ _ _ => ([] : List Od)) H = [] := fun G H => by
    rcases hx : upH G (fun _ _ _ => ([] : List Od)) H with _ | ⟨x, r⟩
    · rfl
    · exfalso
      have : x ∈ upH G (fun _ _ _ => ([] : List Od)) H := by rw [hx]; exact List.mem_cons_self ..
      obtain ⟨_, _, _, _, _, _, f⟩ := mem_upH.1 this
      cases f
  unfold Mt.Jn
  rw [e]
  exact ⟨fun _ _ _ _ _ _ _ f => (by cases f), fun n => (by rw [z]; simp [cntI]), fun _ _ _ _ _ _ => List.Pairwise.nil, fun _ _ _ _ _ _ f => (by cases f)⟩

theorem Stood.step {rs : List Int} {k : Nat} {m m' : Mt} (S : Stood rs k m) (mv : Moves m m') (I : m'.Inv 2000000) (hn : m'.nu ≤ m.nu + 1) : Stood rs (k + 1) m' := by
  have D := mv.dims
  exact ⟨I, mv.jn S.inv S.jn, by have := S.nu; omega, D.T.trans S.T, D.G.trans S.G, D.H.trans S.H, fun h hh => by rw [D.rt]; exact S.rt h hh⟩
end

/- What accounts tell, summed up. -/
section
open Go.RowKit Go.Sort

/-- the pieces of a good among entries -/
def goodSum (g : Nat) : List Sk → Int
  | [] => 0
  | s :: r => (if s.g = g then s.f + s.k + s.c else 0) + goodSum g r

theorem goodSum_app (g : Nat) : ∀ a b : List Sk, goodSum g (a ++ b) = goodSum g a + goodSum g b
  | [], b => by simp [goodSum]
  | s :: r, b => by simp only [List.cons_append, goodSum, goodSum_app g r b]; omega

theorem goodSum_stk (m : Mt) (t h k g : Nat) : goodSum g (stk m t h k) = if k = g then m.pc t h k + m.kept t h k + m.come t h k else 0 := by
  unfold stk
  split
  · by_cases e : k = g
    · subst e; simp [goodSum]
    · have e' : ¬ ((k : Int) = g) := by omega
      simp [goodSum, e, e']
  · rename_i q
    simp only [goodSum]
    split <;> omega

theorem goodSum_row (m : Mt) (t h g : Nat) : ∀ k, goodSum g (stkRow m t h k) = if g < k then m.pc t h g + m.kept t h g + m.come t h g else 0
  | 0 => rfl
  | k + 1 => by
    rw [stkRow, goodSum_app, goodSum_row m t h g k, goodSum_stk]
    by_cases e : k = g
    · subst e; rw [if_neg (by omega), if_pos rfl, if_pos (by omega)]; omega
    · rw [if_neg e]
      by_cases e2 : g < k
      · rw [if_pos e2, if_pos (by omega)]; omega
      · rw [if_neg e2, if_neg (by omega)]; omega

theorem goodSum_to (m : Mt) (t g : Nat) (hg : g < m.G) : ∀ i, goodSum g (stkTo m t i) = rowTo m g t i
  | 0 => rfl
  | i + 1 => by
    rw [stkTo, goodSum_app, goodSum_to m t g hg i, goodSum_row, if_pos hg]; rfl

theorem goodSum_take (g : Nat) (l : List Sk) (j : Nat) (hj : j < l.length) : goodSum g (l.take (j + 1)) = goodSum g (l.take j) + if l[j].g = g then l[j].f + l[j].k + l[j].c else 0 := by
  rw [List.take_add_one, goodSum_app, List.getElem?_eq_getElem hj]
  simp [goodSum]

/-- entries are in order -/
structure Sk.Fine (s : Sk) : Prop where
  g : s.g = 0 ∨ s.g = 1
  h : 0 ≤ s.h ∧ s.h < 4
  f : 0 ≤ s.f ∧ s.f ≤ 1000000000000
  k : 0 ≤ s.k ∧ s.k ≤ 600000
  c : 0 ≤ s.c ∧ s.c ≤ 200000

theorem fine_of {m : Mt} {N : Int} (ok : m.Ok N) (hG : m.G = 2) {t : Nat} (ht : t < m.T) {s : Sk} (hs : s ∈ stkTo m t m.H) : s.Fine := by
  obtain ⟨h, g, h1, h2, h3⟩ := mem_stkTo hs
  unfold stk at h3
  split at h3
  · have e : s = ⟨h, g, m.pc t h g, m.kept t h g, m.come t h g⟩ := by simpa using h3
    subst e
    have b1 := ok.pc t h g ht h1 h2
    have b2 := kept_ok ok (t : Int) h1 h2
    have b3 := come_ok ok t h g
    have b4 := ok.bN
    have b5 := ok.H4
    exact ⟨by show (g : Int) = 0 ∨ (g : Int) = 1; omega, by show 0 ≤ (h : Int) ∧ (h : Int) < 4; omega, ⟨b1.1, by show m.pc t h g ≤ _; omega⟩, b2, b3⟩
  · cases h3

theorem goodSum_bd (g : Nat) : ∀ l : List Sk, (∀ s ∈ l, s.Fine) → 0 ≤ goodSum g l ∧ goodSum g l ≤ 1000001000000 * (l.length : Int)
  | [], _ => by simp [goodSum]
  | s :: r, h => by
    have h1 := goodSum_bd g r fun x hx => h x (List.mem_cons_of_mem _ hx)
    have h2 := h s (List.mem_cons_self ..)
    have h3 := h2.f
    have h4 := h2.k
    have h5 := h2.c
    simp only [goodSum, List.length_cons]
    split <;> omega
end

end Go.Proofs.Ytcfoobhihhndjaa
