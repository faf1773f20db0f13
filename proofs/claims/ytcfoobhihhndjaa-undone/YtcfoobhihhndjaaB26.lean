/- The plain market in the midst of a match: a trade. -/
import Derived.Test.YtcfoobhihhndjaaB23
namespace Go.Proofs.Ytcfoobhihhndjaa

section
theorem setBk_same (m : Mt) (h g s : Nat) : m.setBk h g s (m.bk h g s) = m := by
  cases m
  simp only [Mt.setBk, Mt.mk.injEq, true_and, and_true]
  funext a b c
  split
  · rename_i k
    obtain ⟨rfl, rfl, rfl⟩ := k
    rfl
  · rfl

theorem setBk_setBk (m : Mt) (h g s : Nat) (a b : List Od) : (m.setBk h g s a).setBk h g s b = m.setBk h g s b := by
  simp only [Mt.setBk, Mt.mk.injEq, true_and, and_true]
  funext a b c
  split <;> rfl

section
variable {h g s : Nat} {N : Int} {m : Mt} {o z : Od} {r : List Od}

theorem Mid.core (M : Mid h g s N m o) (hpos : 0 < o.q) (hb : m.bk h g s = z :: r) (hf : pfits o z = true) (hne : z.t ≠ o.t) (n : Int) (hn : n = min o.q z.q) (os : List Od) (h1 : heldS m.T os = heldS m.T ({ z with q := z.q - n } :: r)) (h2 : keptS m.T os = keptS m.T ({ z with q := z.q - n } :: r)) (h3 : ∀ x ∈ os, x.Ok m h g s)
    (h4 : (os.length : Int) + (if 0 < o.q - n then 2 else 0) ≤ r.length + 2) (h5 : os.length ≤ r.length + 1) : Mid h g s N ((noteM (oneM m h g s o z n) h g z.p n).setBk h g s os) { o with q := o.q - n } := by
  have zo := M.I.od h g s z M.q.1 M.q.2.1 M.q.2.2 (by rw [hb]; exact List.mem_cons_self)
  obtain ⟨zt0, zt1⟩ := zo.t
  obtain ⟨ot0, ot1⟩ := M.t
  obtain ⟨zp0, zp1⟩ := zo.p
  obtain ⟨zq0, zq1⟩ := zo.q
  obtain ⟨op0, op1⟩ := M.p
  obtain ⟨oq0, oq1⟩ := M.n
  have n1 : 1 ≤ n := by rw [hn]; omega
  have n2 : n ≤ o.q := by rw [hn]; omega
  have n3 : n ≤ z.q := by rw [hn]; omega
  have am := mul_le' (a := z.p) (b := n) (A := 100000) (B := 10000) (by omega) zp1 (by omega) (by omega)
  have hr := M.I.rt h M.q.1
  have fl := fee_le hr am.1
  have hd := one_rest (m := m) (h := h) (g := g) (s := s) (o := o) (z := z) n
  have hbk := one_bk (m := m) (h := h) (g := g) (s := s) (o := o) (z := z) M.q.2.2 n
  have hne' : z.t.toNat ≠ o.t.toNat := by omega
  have hmo := one_mo (m := m) (h := h) (g := g) (s := s) (o := o) (z := z) hne' n
  have hpc := one_pc (m := m) (h := h) (g := g) (s := s) (o := o) (z := z) n
  have hdm := show (oneM m h g s o z n).T = m.T ∧ (oneM m h g s o z n).G = m.G ∧ (oneM m h g s o z n).H = m.H by unfold oneM; split <;> exact ⟨rfl, rfl, rfl⟩
  have om := one_money M hb n
  have ost := one_stock M hb n
  have q1 : at3 (noteM (oneM m h g s o z n) h g z.p n) h g s := by
    show h < (oneM m h g s o z n).H ∧ g < (oneM m h g s o z n).G ∧ s < 2
    rw [hdm.2.1, hdm.2.2]
    exact M.q
  have xb : (noteM (oneM m h g s o z n) h g z.p n).bk h g s = { z with q := z.q - n } :: r := by
    show (oneM m h g s o z n).bk h g s = _
    rw [hbk, hb]
    simp [Mt.setBk]
  have xl : ((noteM (oneM m h g s o z n) h g z.p n).all.length : Int) = m.all.length := by
    show (((oneM m h g s o z n).all.length : Nat) : Int) = _
    have e : (oneM m h g s o z n).all = (m.setBk h g s ((m.bk h g s).set 0 { z with q := z.q - n })).all := by
      unfold Mt.all
      rw [hbk, hdm.2.1, hdm.2.2]
      rfl
    rw [e, all_setBk m M.q, List.length_set]
    omega
  have yl := all_setBk _ q1 os
  rw [xb, xl] at yl
  simp only [List.length_cons] at yl
  have mon := M.I.mon
  have fe1 := fee_add m h (o.p * (o.q - n)) (o.p * n)
  have e2 : o.p * (o.q - n) + o.p * n = o.p * o.q := by rw [Int.mul_sub]; omega
  rw [e2] at fe1
  have yT : ((noteM (oneM m h g s o z n) h g z.p n).setBk h g s os).T = m.T := hdm.1
  have yG : ((noteM (oneM m h g s o z n) h g z.p n).setBk h g s os).G = m.G := hdm.2.1
  have yH : ((noteM (oneM m h g s o z n) h g z.p n).setBk h g s os).H = m.H := hdm.2.2
  have xT : (noteM (oneM m h g s o z n) h g z.p n).T = m.T := hdm.1
  have ynu : ((noteM (oneM m h g s o z n) h g z.p n).setBk h g s os).nu = m.nu := hd.2.1
  have fits : s = 1 → z.p ≤ o.p := fun e => by
    have o0 : o.s = 0 := by rw [M.es, e]; rfl
    simpa [pfits, o0] using hf
  have fee1 : s = 1 → m.fee h (z.p * n) ≤ m.fee h (o.p * n) ∧ z.p * n ≤ o.p * n := fun e => by
    have k := Int.mul_le_mul_of_nonneg_right (fits e) (show (0 : Int) ≤ n by omega)
    exact ⟨fee_mono hr.1 k, k⟩
  have ifl : (if 0 < o.q then (2 : Int) else 0) = 2 := if_pos hpos
  refine ⟨⟨M.I.bN, ?_, ?_, ?_, ?_, ?_, ?_, fun a ha => ?_, fun t ht => ?_, fun a b c ha hb' hc => ?_, ?_, fun l hl => ?_, ?_, fun a b c x ha hb' hc hx => ?_, ?_, ?_, ?_, ?_, fun g' hg' => ?_, fun a b ha hb' => ?_, fun a b ha hb' => ?_⟩, ?_, M.eh, M.eg, M.es, ?_, M.p, ⟨by show 0 ≤ o.q - n; omega, by show o.q - n ≤ 10000; omega⟩, fun e => ?_⟩
  · rw [yT]; exact M.I.T1
  · rw [yT]; exact M.I.T8
  · rw [yG]; exact M.I.G1
  · rw [yG]; exact M.I.G4
  · rw [yH]; exact M.I.H1
  · rw [yH]; exact M.I.H4
  · show 0 ≤ (oneM m h g s o z n).rt a ∧ (oneM m h g s o z n).rt a ≤ 100
    rw [hd.2.2.2.2.1]
    exact M.I.rt a (by rw [yH] at ha; exact ha)
  · rw [yT] at ht
    show 0 ≤ (oneM m h g s o z n).mo t
    rw [hmo t]
    have m1 := M.I.mo o.t.toNat (by omega)
    have m2 := M.I.mo z.t.toNat (by omega)
    have m3 := M.I.mo t ht
    by_cases e : s = 1
    · have f1 := fee1 e
      have f2 := M.fe e
      have f3 := (fee_le hr (Int.mul_nonneg (show (0 : Int) ≤ o.p by omega) (show (0 : Int) ≤ o.q - n by omega))).1
      rw [if_pos e]
      split
      · omega
      · split <;> omega
    · rw [if_neg e]
      split <;> omega
  · rw [yT] at ha
    rw [yH] at hb'
    rw [yG] at hc
    show 0 ≤ (oneM m h g s o z n).pc a b c
    rw [hpc]
    have := M.I.pc a b c ha hb' hc
    split <;> omega
  · show (oneM m h g s o z n).ld.length ≤ 20
    rw [hd.2.2.1]; exact M.I.l20
  · have hl' : l ∈ m.ld := by
      have : l ∈ (oneM m h g s o z n).ld := hl
      rwa [hd.2.2.1] at this
    rw [yT, yH, yG]
    exact M.I.ld l hl'
  · have := M.I.a60
    omega
  · rw [yH] at ha
    rw [yG] at hb'
    by_cases k : a = h ∧ b = g ∧ c = s
    · obtain ⟨rfl, rfl, rfl⟩ := k
      have hx' : x ∈ os := by simpa [Mt.setBk] using hx
      exact (h3 x hx').of (by rw [ynu]; omega) yT
    · have hx' : x ∈ m.bk a b c := by
        have : x ∈ (oneM m h g s o z n).bk a b c := by simpa [Mt.setBk, noteM, k] using hx
        rw [hbk] at this
        simpa [Mt.setBk, k] using this
      exact (M.I.od a b c x ha hb' hc hx').of (by rw [ynu]; omega) yT
  · rw [ynu]; exact M.I.nu
  · show 0 ≤ (oneM m h g s o z n).ho
    rw [hd.1]
    have := M.I.ho
    omega
  · show 0 ≤ (oneM m h g s o z n).tm ∧ (oneM m h g s o z n).tm ≤ 1000000000
    rw [hd.2.2.2.1]; exact M.I.tm
  · rw [money_setBk _ q1, money_note, xb, xT, h1]
    omega
  · rw [yG] at hg'
    rw [stock_setBk _ q1, stock_note, xT, h2]
    have s1 := ost g'
    have s2 := M.I.stk g' hg'
    by_cases e : s = 1
    · subst e
      rw [xb]
      split <;> omega
    · rw [if_neg (fun f => e f.1)]
      omega
  · rw [yH] at ha
    rw [yG] at hb'
    have k := M.I.pi a b ha hb'
    rw [ynu]
    show 0 ≤ (if a = h ∧ b = g then (oneM m h g s o z n).pi a b + n else (oneM m h g s o z n).pi a b) ∧ (if a = h ∧ b = g then (oneM m h g s o z n).pi a b + n else (oneM m h g s o z n).pi a b) + 10000 * (_ + (if 0 < o.q - n then 2 else 0)) ≤ _
    rw [hd.2.2.2.2.2.1]
    rw [ifl] at k
    split <;> omega
  · rw [yH] at ha
    rw [yG] at hb'
    have k := M.I.am a b ha hb'
    rw [ynu]
    show 0 ≤ (if a = h ∧ b = g then (oneM m h g s o z n).am a b + z.p * n else (oneM m h g s o z n).am a b) ∧ (if a = h ∧ b = g then (oneM m h g s o z n).am a b + z.p * n else (oneM m h g s o z n).am a b) + 1000000000 * (_ + (if 0 < o.q - n then 2 else 0)) ≤ _
    rw [hd.2.2.2.2.2.2.1]
    rw [ifl] at k
    split <;> omega
  · show h < ((noteM (oneM m h g s o z n) h g z.p n).setBk h g s os).H ∧ g < ((noteM (oneM m h g s o z n) h g z.p n).setBk h g s os).G ∧ s < 2
    rw [yH, yG]
    exact M.q
  · rw [yT]; exact M.t
  · show (oneM m h g s o z n).fee h (o.p * (o.q - n)) ≤ (oneM m h g s o z n).mo o.t.toNat
    have ef : (oneM m h g s o z n).fee h (o.p * (o.q - n)) = m.fee h (o.p * (o.q - n)) := by unfold Mt.fee; rw [hd.2.2.2.2.1]
    rw [ef, hmo, if_pos e, if_pos rfl]
    have f1 := fee1 e
    have f2 := M.fe e
    omega

theorem Mid.tr (M : Mid h g s N m o) (hpos : 0 < o.q) (hb : m.bk h g s = z :: r) (hf : pfits o z = true) (hne : z.t ≠ o.t) (he : z.q - min o.q z.q = 0) :
    Mid h g s N ((noteM (oneM m h g s o z (min o.q z.q)) h g z.p (min o.q z.q)).setBk h g s r) { o with q := o.q - min o.q z.q } := by
  have zo := M.I.od h g s z M.q.1 M.q.2.1 M.q.2.2 (by rw [hb]; exact List.mem_cons_self)
  have k1 : heldS m.T ({ z with q := z.q - min o.q z.q } :: r) = heldS m.T [{ z with q := z.q - min o.q z.q }] + heldS m.T r := (adds_heldS _).cons _ r
  have k2 := heldS_one (o := { z with q := z.q - min o.q z.q }) zo.t
  have k3 : keptS m.T ({ z with q := z.q - min o.q z.q } :: r) = keptS m.T [{ z with q := z.q - min o.q z.q }] + keptS m.T r := (adds_keptS _).cons _ r
  have k4 := keptS_one (o := { z with q := z.q - min o.q z.q }) zo.t
  simp only [he, Int.mul_zero, ite_self] at k1 k2 k3 k4
  refine M.core hpos hb hf hne _ rfl r (by simp only [he]; omega) (by simp only [he]; omega) (fun x hx => M.I.od h g s x M.q.1 M.q.2.1 M.q.2.2 (by rw [hb]; exact List.mem_cons_of_mem _ hx)) ?_ (by omega)
  split <;> omega

theorem Mid.tq (M : Mid h g s N m o) (hpos : 0 < o.q) (hb : m.bk h g s = z :: r) (hf : pfits o z = true) (hne : z.t ≠ o.t) (he : z.q - min o.q z.q ≠ 0) :
    Mid h g s N (noteM (oneM m h g s o z (min o.q z.q)) h g z.p (min o.q z.q)) { o with q := o.q - min o.q z.q } := by
  have zo := M.I.od h g s z M.q.1 M.q.2.1 M.q.2.2 (by rw [hb]; exact List.mem_cons_self)
  have zq := zo.q
  have k := M.core hpos hb hf hne _ rfl ({ z with q := z.q - min o.q z.q } :: r) rfl rfl (fun x hx => ?_) ?_ (by simp)
  · have e : (noteM (oneM m h g s o z (min o.q z.q)) h g z.p (min o.q z.q)).bk h g s = { z with q := z.q - min o.q z.q } :: r := by
      show (oneM m h g s o z (min o.q z.q)).bk h g s = _
      rw [one_bk M.q.2.2, hb]
      simp [Mt.setBk]
    rw [← e, setBk_same] at k
    exact k
  · rcases List.mem_cons.1 hx with rfl | hx
    · exact ⟨zo.id, zo.t, zo.h, zo.g, zo.s, zo.p, ⟨by show 1 ≤ z.q - min o.q z.q; omega, by show z.q - min o.q z.q ≤ 10000; omega⟩, zo.w⟩
    · exact M.I.od h g s x M.q.1 M.q.2.1 M.q.2.2 (by rw [hb]; exact List.mem_cons_of_mem _ hx)
  · have : ¬ 0 < o.q - min o.q z.q := by omega
    rw [if_neg this]
    simp only [List.length_cons]
    omega
end
end

end Go.Proofs.Ytcfoobhihhndjaa
