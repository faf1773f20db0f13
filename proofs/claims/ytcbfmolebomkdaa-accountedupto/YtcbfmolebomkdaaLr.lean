/- The law: how a step that makes a market turns what holds. -/
import Derived.Test.YtcbfmolebomkdaaLq
namespace Go.Proofs.Ytcbfmolebomkdaa
open Go.RowKit

/-- one entry more in book.e -/
theorem Inv.madeE {B0 p : Nat} {N : Int} {s : St} {w w' : World} (h : Inv B0 p N s w) (P : MadeE w p B0 s.ev s.es w') : ∃ s', Inv B0 p N s' w' ∧ s'.n = s.n ∧ s'.al = s.al ∧ s'.es.length = s.es.length + 1 ∧ ∀ b, b < w.heap.size → Dead s p b → Dead s' p b := by
  obtain ⟨av', nv, q1, q2, q3, q4, k, q6⟩ := P
  have lt := h.lt
  have notS : ∀ ix b, ix ≠ .p → ix ≠ .e → b ∈ s.F p ix → b ∉ p :: s.ev.ownBlock.toList := fun ix b h1 h2 hb hb' => by
    rcases List.mem_cons.1 hb' with q | q
    · exact h.sep ix .p b h1 hb (by simp [St.F, q])
    · exact h.sep ix .e b h2 hb (by simpa [St.F] using q)
  have deadS : ∀ b, Dead s p b → b ∉ p :: s.ev.ownBlock.toList := fun b hb hb' => by
    rcases List.mem_cons.1 hb' with q | q
    · exact hb .p (by simp [St.F, q])
    · exact hb .e (by simpa [St.F] using q)
  let s' : St := { s with ev := av', es := s.es ++ [nv] }
  have hF : ∀ ix b, b ∈ s'.F p ix → b ∈ s.F p ix ∨ w.heap.size ≤ b := fun ix b hb => by
    cases ix with
    | e =>
      have hb2 : av'.ownBlock = some b := by simpa [St.F, s'] using hb
      rcases q3 with q | ⟨b', q, hs⟩
      · exact .inl (by simpa [St.F, ← q] using hb2)
      · have e : b' = b := by rw [hb2] at q; simpa using q.symm
        exact .inr (by omega)
    | _ => exact .inl hb
  have old : ∀ ix b, ix ≠ .e → b ∈ s'.F p ix → b ∈ s.F p ix := fun ix b h1 hb => by
    cases ix with
    | e => exact absurd rfl h1
    | _ => exact hb
  have hN2 : ∀ ix jx b, ix ≠ jx → w.heap.size ≤ b → b ∈ s'.F p ix → b ∉ s'.F p jx := fun ix jx b hne hz hb hb' => by
    have loc : ∀ kx, b ∈ s'.F p kx → kx = .e := fun kx hk => by
      by_cases a1 : kx = .e
      · exact a1
      · have := lt kx b (old kx b a1 hk); omega
    exact hne ((loc ix hb).trans (loc jx hb').symm)
  refine ⟨s', ⟨Nat.le_trans h.b0 k.size, q4 0 _ (by decide) h.c0, q4 1 _ (by decide) h.c1, q4 2 _ (by decide) h.c2, q4 3 _ (by decide) h.c3, q4 4 _ (by decide) h.c4, q1, ownsRow_keep h.rps k (fun b hb => notS .ps b (by simp) (by simp) (mem_own hb)), ownsRow_keep h.ra k (fun b hb => notS .a b (by simp) (by simp) (mem_own hb)), by simpa [s'] using q2,
    fun j hj => (h.rx j hj).keep k (fun b hb => notS (.x j) b (by simp) (by simp) (by simp only [St.F, if_pos (show j < s.n from hj)]; exact hb)), fun j hj => (h.rc j hj).keep k (fun b hb => notS (.c j) b (by simp) (by simp) (by simp only [St.F, if_pos (show j < s.n from hj)]; exact hb)), h.ok, sep_upd h.sep lt hF hN2, fun ix b hb => ?_, fun j hj => ?_, fun j hj => ?_⟩, rfl, rfl, by simp [s'], fun b hb q => dead_upd hF hb q⟩
  · rcases hF ix b hb with q | q
    · exact h.low ix b q
    · have := h.b0; omega
  · exact (h.sh j hj).keep (by simp [markA]) k deadS (fun b hb q => dead_upd hF hb q)
  · by_cases e : j < s.es.length
    · have e2 : s'.es[j] = s.es[j] := by simp only [s']; rw [List.getElem_append_left e]
      rw [e2]
      exact (h.ct j e).keep (by simp [markE]) k deadS (fun b hb q => dead_upd hF hb q)
    · have hj' : j < s.es.length + 1 := by simpa [s'] using hj
      obtain rfl : j = s.es.length := by omega
      have e2 : s'.es[s.es.length] = nv := by simp [s']
      rw [e2]
      refine q6 (Dead s' p) (fun b hb ix hx => ?_)
      by_cases a1 : ix = .e
      · subst a1
        exact hb.2 (by simpa [St.F, s'] using hx)
      · have := lt ix b (old ix b a1 hx)
        have := hb.1
        omega

/-- a market more -/
theorem Inv.madeY {B0 p : Nat} {N : Int} {s : St} {w w' : World} {T G H : Nat} (h : Inv B0 p N s w) (hok : (newM T G H).Ok N) (P : MadeY w p B0 s.ev s.psv s.es (pairCells s.L s.R s.n) s.n T G H w') : ∃ s', Inv B0 p N s' w' ∧ s'.n = s.n + 1 ∧ s'.al = s.al ∧ s'.es.length = s.es.length + 1 ∧ ∀ b, b < w.heap.size → Dead s p b → Dead s' p b := by
  obtain ⟨L, R, psv', ev', nv, hp, hr, fL, fR, dis, qp, qe, o0, r0, l0, o5, r5, l5, oj, k, mk⟩ := P
  have lt := h.lt
  have notS : ∀ ix b, ix ≠ .p → ix ≠ .ps → ix ≠ .e → b ∈ s.F p ix → b ∉ p :: (s.psv.ownBlock.toList ++ s.ev.ownBlock.toList) := fun ix b h1 h2 h3 hb hb' => by
    rcases List.mem_cons.1 hb' with q | q
    · exact h.sep ix .p b h1 hb (by simp [St.F, q])
    · rcases List.mem_append.1 q with q | q
      · exact h.sep ix .ps b h2 hb q
      · exact h.sep ix .e b h3 hb q
  have deadS : ∀ b, Dead s p b → b ∉ p :: (s.psv.ownBlock.toList ++ s.ev.ownBlock.toList) := fun b hb hb' => by
    rcases List.mem_cons.1 hb' with q | q
    · exact hb .p (by simp [St.F, q])
    · rcases List.mem_append.1 q with q | q
      · exact hb .ps q
      · exact hb .e q
  let s' : St := { n := s.n + 1, L := fun j => if j = s.n then L else s.L j, R := fun j => if j = s.n then R else s.R j, m := fun j => if j = s.n then newM T G H else s.m j, psv := psv', av := s.av, ev := ev', al := s.al, es := s.es ++ [nv] }
  have fx : ∀ j b, b ∈ s'.F p (.x j) → (j = s.n ∧ b ∈ L.fp) ∨ (j ≠ s.n ∧ b ∈ s.F p (.x j)) := fun j b hb => by
    by_cases e : j = s.n
    · subst e
      exact .inl ⟨rfl, by simpa [St.F, s'] using hb⟩
    · refine .inr ⟨e, ?_⟩
      simp only [St.F, s', if_neg e] at hb ⊢
      by_cases hj : j < s.n
      · rw [if_pos hj]; rwa [if_pos (by omega)] at hb
      · rw [if_neg (by omega)] at hb; simp at hb
  have fc : ∀ j b, b ∈ s'.F p (.c j) → (j = s.n ∧ b ∈ R.fp) ∨ (j ≠ s.n ∧ b ∈ s.F p (.c j)) := fun j b hb => by
    by_cases e : j = s.n
    · subst e
      exact .inl ⟨rfl, by simpa [St.F, s'] using hb⟩
    · refine .inr ⟨e, ?_⟩
      simp only [St.F, s', if_neg e] at hb ⊢
      by_cases hj : j < s.n
      · rw [if_pos hj]; rwa [if_pos (by omega)] at hb
      · rw [if_neg (by omega)] at hb; simp at hb
  have psl : ∀ b, psv'.ownBlock = some b → b ∈ s.F p .ps ∨ w.heap.size ≤ b := fun b hb => by
    rcases l0 with q | ⟨b', q, hs⟩
    · exact .inl (mem_own (by rw [← q]; exact hb))
    · have e : b' = b := by rw [hb] at q; simpa using q.symm
      exact .inr (by omega)
  have evl : ∀ b, ev'.ownBlock = some b → b ∈ s.F p .e ∨ w.heap.size ≤ b := fun b hb => by
    rcases l5 with q | ⟨b', q, hs⟩
    · exact .inl (mem_own (by rw [← q]; exact hb))
    · have e : b' = b := by rw [hb] at q; simpa using q.symm
      exact .inr (by omega)
  have hF : ∀ ix b, b ∈ s'.F p ix → b ∈ s.F p ix ∨ w.heap.size ≤ b := fun ix b hb => by
    cases ix with
    | p => exact .inl hb
    | a => exact .inl hb
    | ps => exact psl b (by simpa [St.F, s'] using hb)
    | e => exact evl b (by simpa [St.F, s'] using hb)
    | x j =>
      rcases fx j b hb with ⟨_, q⟩ | ⟨_, q⟩
      · exact .inr (fL b q)
      · exact .inl q
    | c j =>
      rcases fc j b hb with ⟨_, q⟩ | ⟨_, q⟩
      · exact .inr (fR b q)
      · exact .inl q
  have loc : ∀ kx b, w.heap.size ≤ b → b ∈ s'.F p kx → (kx = .ps ∧ psv'.ownBlock = some b) ∨ (kx = .e ∧ ev'.ownBlock = some b) ∨ (kx = .x s.n ∧ b ∈ L.fp) ∨ (kx = .c s.n ∧ b ∈ R.fp) := fun kx b hz hk => by
    cases kx with
    | p => have := lt .p b hk; omega
    | a => have := lt .a b hk; omega
    | ps => exact .inl ⟨rfl, by simpa [St.F, s'] using hk⟩
    | e => exact .inr (.inl ⟨rfl, by simpa [St.F, s'] using hk⟩)
    | x j =>
      rcases fx j b hk with ⟨e, q⟩ | ⟨_, q⟩
      · exact .inr (.inr (.inl ⟨by rw [e], q⟩))
      · have := lt _ b q; omega
    | c j =>
      rcases fc j b hk with ⟨e, q⟩ | ⟨_, q⟩
      · exact .inr (.inr (.inr ⟨by rw [e], q⟩))
      · have := lt _ b q; omega
  have hN2 : ∀ ix jx b, ix ≠ jx → w.heap.size ≤ b → b ∈ s'.F p ix → b ∉ s'.F p jx := fun ix jx b hne hz hb hb' => by
    rcases loc ix b hz hb with ⟨rfl, q⟩ | ⟨rfl, q⟩ | ⟨rfl, q⟩ | ⟨rfl, q⟩ <;> rcases loc jx b hz hb' with ⟨rfl, q'⟩ | ⟨rfl, q'⟩ | ⟨rfl, q'⟩ | ⟨rfl, q'⟩
    · exact hne rfl
    · exact (qp b q).2.2 q'
    · exact (qp b q).1 q'
    · exact (qp b q).2.1 q'
    · exact (qp b q').2.2 q
    · exact hne rfl
    · exact (qe b q).1 q'
    · exact (qe b q).2 q'
    · exact (qp b q').1 q
    · exact (qe b q').1 q
    · exact hne rfl
    · exact dis b q q'
    · exact (qp b q').2.1 q
    · exact (qe b q').2 q
    · exact dis b q' q
    · exact hne rfl
  refine ⟨s', ⟨Nat.le_trans h.b0 k.size, o0, oj 1 _ (by decide) (by decide) h.c1, oj 2 _ (by decide) (by decide) h.c2, oj 3 _ (by decide) (by decide) h.c3, oj 4 _ (by decide) (by decide) h.c4, o5, ?_, ownsRow_keep h.ra k (fun b hb => notS .a b (by simp) (by simp) (by simp) (mem_own hb)), by simpa [s'] using r5,
    fun j hj => ?_, fun j hj => ?_, fun j hj => ?_, sep_upd h.sep lt hF hN2, fun ix b hb => ?_, fun j hj => ?_, fun j hj => ?_⟩, rfl, rfl, by simp [s'], fun b hb q => dead_upd hF hb q⟩
  · have e : pairCells s'.L s'.R s'.n = pairCells s.L s.R s.n ++ [.pointer (some ⟨L.x, 0, none⟩), .pointer (some ⟨R.c, 0, none⟩)] := by
      show pairCells s'.L s'.R (s.n + 1) = _
      rw [pairCells, pairCells_congr (L := s.L) (R := s.R) s.n (fun j hj => by simp [s', show j ≠ s.n by omega])]
      simp [s']
    rw [e]
    exact r0
  · by_cases e : j = s.n
    · subst e; simpa [s'] using hp
    · have hj' : j < s.n := by have : j < s.n + 1 := hj; omega
      simp only [s', if_neg e]
      exact (h.rx j hj').keep k (fun b hb => notS (.x j) b (by simp) (by simp) (by simp) (by simp only [St.F, if_pos hj']; exact hb))
  · by_cases e : j = s.n
    · subst e; simpa [s'] using hr
    · have hj' : j < s.n := by have : j < s.n + 1 := hj; omega
      simp only [s', if_neg e]
      exact (h.rc j hj').keep k (fun b hb => notS (.c j) b (by simp) (by simp) (by simp) (by simp only [St.F, if_pos hj']; exact hb))
  · by_cases e : j = s.n
    · subst e; simpa [s'] using hok
    · have hj' : j < s.n := by have : j < s.n + 1 := hj; omega
      simp only [s', if_neg e]
      exact h.ok j hj'
  · rcases hF ix b hb with q | q
    · exact h.low ix b q
    · have := h.b0; omega
  · exact (h.sh j hj).keep (by simp [markA]) k deadS (fun b hb q => dead_upd hF hb q)
  · by_cases e : j < s.es.length
    · have e2 : s'.es[j] = s.es[j] := by simp only [s']; rw [List.getElem_append_left e]
      rw [e2]
      exact (h.ct j e).keep (by simp [markE]) k deadS (fun b hb q => dead_upd hF hb q)
    · have hj' : j < s.es.length + 1 := by simpa [s'] using hj
      obtain rfl : j = s.es.length := by omega
      have e2 : s'.es[s.es.length] = nv := by simp [s']
      rw [e2]
      refine mk (Dead s' p) (fun b hb ix hx => ?_)
      obtain ⟨h1, h2, h3, h4, h5⟩ := hb
      rcases loc ix b h1 hx with ⟨_, q⟩ | ⟨_, q⟩ | ⟨_, q⟩ | ⟨_, q⟩
      · exact h3 q
      · exact h2 q
      · exact h4 q
      · exact h5 q

end Go.Proofs.Ytcbfmolebomkdaa
