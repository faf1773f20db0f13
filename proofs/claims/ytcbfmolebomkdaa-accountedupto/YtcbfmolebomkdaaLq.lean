/- The law: how a step turns what holds. -/
import Derived.Test.YtcbfmolebomkdaaLp
namespace Go.Proofs.Ytcbfmolebomkdaa
open Go.RowKit

theorem mem_own {o : Option Nat} {b : Nat} (h : o = some b) : b ∈ o.toList := by simp [h]

theorem Inv.pair {B0 p : Nat} {N N' : Int} {s : St} {w w' : World} (h : Inv B0 p N s w) (i : Nat) (hi : i < s.n) (m' : Mk) (P : PairPost w (s.L i) (s.R i) m' w') (ok' : m'.Ok N') (hN : N ≤ N') :
    ∃ s', Inv B0 p N' s' w' ∧ s'.n = s.n ∧ s'.al = s.al ∧ s'.es = s.es ∧ ∀ b, b < w.heap.size → Dead s p b → Dead s' p b := by
  obtain ⟨L', R', e1, e2, f1, f2, dis, hp, hr⟩ := P.rep
  have k := P.kp
  have lt := h.lt
  have notS : ∀ ix b, ix ≠ .x i → ix ≠ .c i → b ∈ s.F p ix → b ∉ (s.L i).fp ++ (s.R i).fp := fun ix b h1 h2 hb hb' => by
    rcases List.mem_append.1 hb' with q | q
    · exact h.sep ix (.x i) b h1 hb (by simp only [St.F, if_pos hi]; exact q)
    · exact h.sep ix (.c i) b h2 hb (by simp only [St.F, if_pos hi]; exact q)
  have deadS : ∀ b, Dead s p b → b ∉ (s.L i).fp ++ (s.R i).fp := fun b hb hb' => by
    rcases List.mem_append.1 hb' with q | q
    · exact hb (.x i) (by simp only [St.F, if_pos hi]; exact q)
    · exact hb (.c i) (by simp only [St.F, if_pos hi]; exact q)
  let s' : St := { s with L := fun j => if j = i then L' else s.L j, R := fun j => if j = i then R' else s.R j, m := fun j => if j = i then m' else s.m j }
  have hF : ∀ ix b, b ∈ s'.F p ix → b ∈ s.F p ix ∨ w.heap.size ≤ b := fun ix b hb => by
    cases ix with
    | p => exact .inl hb
    | ps => exact .inl hb
    | a => exact .inl hb
    | e => exact .inl hb
    | x j =>
      by_cases e : j = i
      · subst e
        simp only [St.F, s', if_pos hi, if_true] at hb ⊢
        exact f1 b hb
      · simp only [St.F, s', if_neg e] at hb ⊢
        exact .inl hb
    | c j =>
      by_cases e : j = i
      · subst e
        simp only [St.F, s', if_pos hi, if_true] at hb ⊢
        exact f2 b hb
      · simp only [St.F, s', if_neg e] at hb ⊢
        exact .inl hb
  have old : ∀ ix b, ix ≠ .x i → ix ≠ .c i → b ∈ s'.F p ix → b ∈ s.F p ix := fun ix b h1 h2 hb => by
    cases ix with
    | p => exact hb
    | ps => exact hb
    | a => exact hb
    | e => exact hb
    | x j =>
      have e : j ≠ i := fun e => h1 (by rw [e])
      simpa only [St.F, s', if_neg e] using hb
    | c j =>
      have e : j ≠ i := fun e => h2 (by rw [e])
      simpa only [St.F, s', if_neg e] using hb
  have hN2 : ∀ ix jx b, ix ≠ jx → w.heap.size ≤ b → b ∈ s'.F p ix → b ∉ s'.F p jx := fun ix jx b hne hz hb hb' => by
    have loc : ∀ kx, b ∈ s'.F p kx → kx = .x i ∨ kx = .c i := fun kx hk => by
      by_cases a1 : kx = .x i
      · exact .inl a1
      · by_cases a2 : kx = .c i
        · exact .inr a2
        · have := lt kx b (old kx b a1 a2 hk); omega
    have inL : b ∈ s'.F p (.x i) → b ∈ L'.fp := fun q => by simpa only [St.F, s', if_pos hi, if_true] using q
    have inR : b ∈ s'.F p (.c i) → b ∈ R'.fp := fun q => by simpa only [St.F, s', if_pos hi, if_true] using q
    rcases loc ix hb with rfl | rfl
    · rcases loc jx hb' with rfl | rfl
      · exact hne rfl
      · exact dis b (inL hb) (inR hb')
    · rcases loc jx hb' with rfl | rfl
      · exact dis b (inL hb') (inR hb)
      · exact hne rfl
  have pn : p ∉ (s.L i).fp ++ (s.R i).fp := notS .p p (by simp) (by simp) (by simp [St.F])
  refine ⟨s', ⟨Nat.le_trans h.b0 k.size, h.c0.keep k pn, h.c1.keep k pn, h.c2.keep k pn, h.c3.keep k pn, h.c4.keep k pn, h.c5.keep k pn, ?_, ownsRow_keep h.ra k (fun b hb => notS .a b (by simp) (by simp) (mem_own hb)), ownsRow_keep h.re k (fun b hb => notS .e b (by simp) (by simp) (mem_own hb)),
    fun j hj => ?_, fun j hj => ?_, fun j hj => ?_, sep_upd h.sep lt hF hN2, fun ix b hb => ?_, fun j hj => ?_, fun j hj => ?_⟩, rfl, rfl, rfl, fun b hb q => dead_upd hF hb q⟩
  · have e : pairCells s'.L s'.R s'.n = pairCells s.L s.R s.n := pairCells_congr _ (fun j _ => by
      by_cases e : j = i
      · subst e; simp [s', e1, e2]
      · simp [s', e])
    rw [e]
    exact ownsRow_keep h.rps k (fun b hb => notS .ps b (by simp) (by simp) (mem_own hb))
  · by_cases e : j = i
    · subst e; simpa [s'] using hp
    · simp only [s', if_neg e]
      exact (h.rx j hj).keep k (fun b hb => notS (.x j) b (by simpa using e) (by simp) (by simp only [St.F, if_pos (show j < s.n from hj)]; exact hb))
  · by_cases e : j = i
    · subst e; simpa [s'] using hr
    · simp only [s', if_neg e]
      exact (h.rc j hj).keep k (fun b hb => notS (.c j) b (by simp) (by simpa using e) (by simp only [St.F, if_pos (show j < s.n from hj)]; exact hb))
  · by_cases e : j = i
    · subst e; simpa [s'] using ok'
    · simp only [s', if_neg e]
      exact ok_mono (h.ok j hj) hN ok'.bN
  · rcases hF ix b hb with q | q
    · exact h.low ix b q
    · have := h.b0; omega
  · exact (h.sh j hj).keep (by simp [markA]) k deadS (fun b hb q => dead_upd hF hb q)
  · exact (h.ct j hj).keep (by simp [markE]) k deadS (fun b hb q => dead_upd hF hb q)

/-- one entry more in book.a -/
theorem Inv.acc {B0 p : Nat} {N : Int} {s : St} {w w' : World} (h : Inv B0 p N s w) (P : AccPost w p B0 s.av s.al w') : ∃ s', Inv B0 p N s' w' ∧ s'.n = s.n ∧ s'.al.length = s.al.length + 1 ∧ s'.es = s.es ∧ ∀ b, b < w.heap.size → Dead s p b → Dead s' p b := by
  obtain ⟨av', nv, q1, q2, q3, q4, k, q6⟩ := P
  have lt := h.lt
  have notS : ∀ ix b, ix ≠ .p → ix ≠ .a → b ∈ s.F p ix → b ∉ p :: s.av.ownBlock.toList := fun ix b h1 h2 hb hb' => by
    rcases List.mem_cons.1 hb' with q | q
    · exact h.sep ix .p b h1 hb (by simp [St.F, q])
    · exact h.sep ix .a b h2 hb (by simpa [St.F] using q)
  have deadS : ∀ b, Dead s p b → b ∉ p :: s.av.ownBlock.toList := fun b hb hb' => by
    rcases List.mem_cons.1 hb' with q | q
    · exact hb .p (by simp [St.F, q])
    · exact hb .a (by simpa [St.F] using q)
  let s' : St := { s with av := av', al := s.al ++ [nv] }
  have hF : ∀ ix b, b ∈ s'.F p ix → b ∈ s.F p ix ∨ w.heap.size ≤ b := fun ix b hb => by
    cases ix with
    | a =>
      have hb2 : av'.ownBlock = some b := by simpa [St.F, s'] using hb
      rcases q3 with q | ⟨b', q, hs⟩
      · exact .inl (by simpa [St.F, ← q] using hb2)
      · have e : b' = b := by rw [hb2] at q; simpa using q.symm
        exact .inr (by omega)
    | _ => exact .inl hb
  have old : ∀ ix b, ix ≠ .a → b ∈ s'.F p ix → b ∈ s.F p ix := fun ix b h1 hb => by
    cases ix with
    | a => exact absurd rfl h1
    | _ => exact hb
  have hN2 : ∀ ix jx b, ix ≠ jx → w.heap.size ≤ b → b ∈ s'.F p ix → b ∉ s'.F p jx := fun ix jx b hne hz hb hb' => by
    have loc : ∀ kx, b ∈ s'.F p kx → kx = .a := fun kx hk => by
      by_cases a1 : kx = .a
      · exact a1
      · have := lt kx b (old kx b a1 hk); omega
    exact hne ((loc ix hb).trans (loc jx hb').symm)
  refine ⟨s', ⟨Nat.le_trans h.b0 k.size, q4 0 _ (by decide) h.c0, q1, q4 2 _ (by decide) h.c2, q4 3 _ (by decide) h.c3, q4 4 _ (by decide) h.c4, q4 5 _ (by decide) h.c5, ownsRow_keep h.rps k (fun b hb => notS .ps b (by simp) (by simp) (mem_own hb)), by simpa [s'] using q2, ownsRow_keep h.re k (fun b hb => notS .e b (by simp) (by simp) (mem_own hb)),
    fun j hj => (h.rx j hj).keep k (fun b hb => notS (.x j) b (by simp) (by simp) (by simp only [St.F, if_pos (show j < s.n from hj)]; exact hb)), fun j hj => (h.rc j hj).keep k (fun b hb => notS (.c j) b (by simp) (by simp) (by simp only [St.F, if_pos (show j < s.n from hj)]; exact hb)), h.ok, sep_upd h.sep lt hF hN2, fun ix b hb => ?_, fun j hj => ?_, fun j hj => ?_⟩, rfl, by simp [s'], rfl, fun b hb q => dead_upd hF hb q⟩
  · rcases hF ix b hb with q | q
    · exact h.low ix b q
    · have := h.b0; omega
  · by_cases e : j < s.al.length
    · have e2 : s'.al[j] = s.al[j] := by simp only [s']; rw [List.getElem_append_left e]
      rw [e2]
      exact (h.sh j e).keep (by simp [markA]) k deadS (fun b hb q => dead_upd hF hb q)
    · have hj' : j < s.al.length + 1 := by simpa [s'] using hj
      obtain rfl : j = s.al.length := by omega
      have e2 : s'.al[s.al.length] = nv := by simp [s']
      rw [e2]
      refine q6 (Dead s' p) (fun b hb ix hx => ?_)
      by_cases a1 : ix = .a
      · subst a1
        exact hb.2 (by simpa [St.F, s'] using hx)
      · have := lt ix b (old ix b a1 hx)
        have := hb.1
        omega
  · exact (h.ct j hj).keep (by simp [markE]) k deadS (fun b hb q => dead_upd hF hb q)

end Go.Proofs.Ytcbfmolebomkdaa
