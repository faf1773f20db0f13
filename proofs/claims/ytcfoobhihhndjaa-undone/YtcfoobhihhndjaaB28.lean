/- The plain market: an order that comes keeps what always holds. -/
import Derived.Test.YtcfoobhihhndjaaB25
import Derived.Test.YtcfoobhihhndjaaB26
import Derived.Test.YtcfoobhihhndjaaB27
namespace Go.Proofs.Ytcfoobhihhndjaa

section
theorem run_mid (h g s : Nat) (N : Int) : Run h g s N (Mid h g s N) where
  ok := fun _ _ M => M.ok
  bd := fun _ _ M => ⟨M.q, M.eh, M.eg, M.es, M.t, M.p, M.n⟩
  st := fun _ _ M => M.I.pi_le (by split <;> omega) M.q.1 M.q.2.1
  tb := fun _ _ _ _ M hb => M.tb hb
  tr := fun _ _ _ _ M h0 hb hf hne he => M.tr h0 hb hf hne he
  tq := fun _ _ _ _ M h0 hb hf hne he => M.tq h0 hb hf hne he

theorem Run.out {h g s : Nat} {N : Int} {I : Mt → Od → Prop} (run : Run h g s N I) : ∀ (l : List Od) (m : Mt) (o : Od), m.bk h g s = l → I m o → I (matchM h g s l m o).1 (matchM h g s l m o).2.1
  | [], m, o, _, hI => hI
  | z :: r, m, o, hb, hI => by
    rw [matchM]
    split
    · exact hI
    · rename_i h0
      split
      · exact hI
      · rename_i hpf
        have hpf' : pfits o z = true := by cases h : pfits o z; exact absurd h hpf; rfl
        split
        · exact run.out r _ _ (by rw [bk_release, bk_set]) (run.tb _ _ _ _ hI hb)
        · rename_i hzt
          split
          · rename_i hz
            exact run.out r _ _ (bk_set _ _ _ _ _) (run.tr _ _ _ _ hI (by omega) hb hpf' hzt hz)
          · rename_i hz
            exact run.tq _ _ _ _ hI (by omega) hb hpf' hzt hz

/-- what a match leaves as it was: of the order all but its pieces, of the market its sizes and numbers -/
theorem matchM_o {h g s : Nat} : ∀ (l : List Od) (m : Mt) (o : Od), ∃ x, (matchM h g s l m o).2.1 = { o with q := x }
  | [], m, o => ⟨o.q, rfl⟩
  | z :: r, m, o => by
    rw [matchM]
    split
    · exact ⟨o.q, rfl⟩
    · split
      · exact ⟨o.q, rfl⟩
      · split
        · exact matchM_o r _ _
        · split
          · obtain ⟨x, hx⟩ := matchM_o (h := h) (g := g) (s := s) r ((noteM (oneM m h g s o z (min o.q z.q)) h g z.p (min o.q z.q)).setBk h g s r) { o with q := o.q - min o.q z.q }
            exact ⟨x, hx⟩
          · exact ⟨_, rfl⟩

structure Same (m m' : Mt) : Prop where
  T : m'.T = m.T
  G : m'.G = m.G
  H : m'.H = m.H
  rt : m'.rt = m.rt
  ld : m'.ld = m.ld
  nu : m'.nu = m.nu
  tm : m'.tm = m.tm

theorem Same.refl (m : Mt) : Same m m := ⟨rfl, rfl, rfl, rfl, rfl, rfl, rfl⟩
theorem Same.trans {a b c : Mt} (h : Same a b) (k : Same b c) : Same a c := ⟨k.T.trans h.T, k.G.trans h.G, k.H.trans h.H, k.rt.trans h.rt, k.ld.trans h.ld, k.nu.trans h.nu, k.tm.trans h.tm⟩
theorem same_release (m : Mt) (t h g s : Nat) (o : Od) : Same m (releaseM m t h g s o) := by unfold releaseM; split <;> exact ⟨rfl, rfl, rfl, rfl, rfl, rfl, rfl⟩
theorem same_setBk (m : Mt) (h g s : Nat) (os : List Od) : Same m (m.setBk h g s os) := ⟨rfl, rfl, rfl, rfl, rfl, rfl, rfl⟩
theorem same_note (m : Mt) (h g : Nat) (p q : Int) : Same m (noteM m h g p q) := ⟨rfl, rfl, rfl, rfl, rfl, rfl, rfl⟩
theorem same_one (m : Mt) (h g s : Nat) (o z : Od) (n : Int) : Same m (oneM m h g s o z n) := by unfold oneM; split <;> exact ⟨rfl, rfl, rfl, rfl, rfl, rfl, rfl⟩

theorem matchM_same {h g s : Nat} : ∀ (l : List Od) (m : Mt) (o : Od), Same m (matchM h g s l m o).1
  | [], m, o => Same.refl m
  | z :: r, m, o => by
    rw [matchM]
    split
    · exact Same.refl m
    · split
      · exact Same.refl m
      · split
        · exact ((same_setBk _ _ _ _ _).trans (same_release _ _ _ _ _ _)).trans (matchM_same r _ _)
        · split
          · exact (((same_one _ _ _ _ _ _ _).trans (same_note _ _ _ _ _)).trans (same_setBk _ _ _ _ _)).trans (matchM_same r _ _)
          · exact (same_one _ _ _ _ _ _ _).trans (same_note _ _ _ _ _)

theorem len_one {m : Mt} {h g s : Nat} {o z : Od} {r : List Od} (q : at3 m h g s) (hb : m.bk h g s = z :: r) (n p x : Int) (os : List Od) : (((noteM (oneM m h g s o z n) h g p x).setBk h g s os).all.length : Int) = m.all.length + (os.length - (r.length + 1)) := by
  have e : ((noteM (oneM m h g s o z n) h g p x).setBk h g s os).all = (m.setBk h g s os).all := by
    have d := same_one m h g s o z n
    have hbk := one_bk (m := m) (h := h) (g := g) (s := s) (o := o) (z := z) q.2.2 n
    unfold Mt.all
    show upH (oneM m h g s o z n).G (fun a b c => if a = h ∧ b = g ∧ c = s then os else (oneM m h g s o z n).bk a b c) (oneM m h g s o z n).H = upH m.G (fun a b c => if a = h ∧ b = g ∧ c = s then os else m.bk a b c) m.H
    rw [d.G, d.H, hbk]
    congr 1
    funext a b c
    split
    · rfl
    · rename_i k
      simp [Mt.setBk, k]
  rw [e, all_setBk m q, hb]
  simp

theorem matchM_all {h g s : Nat} : ∀ (l : List Od) (m : Mt) (o : Od), at3 m h g s → m.bk h g s = l → (matchM h g s l m o).1.all.length ≤ m.all.length
  | [], m, o, _, _ => Nat.le_refl _
  | z :: r, m, o, q, hb => by
    rw [matchM]
    split
    · exact Nat.le_refl _
    · split
      · exact Nat.le_refl _
      · split
        · have ih := matchM_all (h := h) (g := g) (s := s) r (releaseM (m.setBk h g s r) z.t.toNat h g s z) o (by have := same_release (m.setBk h g s r) z.t.toNat h g s z; exact ⟨by rw [this.H]; exact q.1, by rw [this.G]; exact q.2.1, q.2.2⟩) (by rw [bk_release, bk_set])
          have e : (releaseM (m.setBk h g s r) z.t.toNat h g s z).all = (m.setBk h g s r).all := by
            unfold Mt.all
            rw [bk_release, (same_release _ _ _ _ _ _).G, (same_release _ _ _ _ _ _).H]
          have l := all_setBk m q r
          rw [hb] at l
          rw [e] at ih
          simp only [List.length_cons] at l
          omega
        · split
          · have ih := matchM_all (h := h) (g := g) (s := s) r ((noteM (oneM m h g s o z (min o.q z.q)) h g z.p (min o.q z.q)).setBk h g s r) { o with q := o.q - min o.q z.q } (by have := same_one m h g s o z (min o.q z.q); exact ⟨by show h < (oneM m h g s o z (min o.q z.q)).H; rw [this.H]; exact q.1, by show g < (oneM m h g s o z (min o.q z.q)).G; rw [this.G]; exact q.2.1, q.2.2⟩) (bk_set _ _ _ _ _)
            have l := len_one (o := o) q hb (min o.q z.q) z.p (min o.q z.q) r
            show _ ≤ _
            simp only []
            omega
          · have l := len_one (o := o) q hb (min o.q z.q) z.p (min o.q z.q) ({ z with q := z.q - min o.q z.q } :: r)
            have e2 : (noteM (oneM m h g s o z (min o.q z.q)) h g z.p (min o.q z.q)).setBk h g s ({ z with q := z.q - min o.q z.q } :: r) = noteM (oneM m h g s o z (min o.q z.q)) h g z.p (min o.q z.q) := by
              have := setBk_same (noteM (oneM m h g s o z (min o.q z.q)) h g z.p (min o.q z.q)) h g s
              rwa [mo_bk0 q.2.2 hb] at this
            rw [e2] at l
            simp only [List.length_cons] at l
            show (noteM (oneM m h g s o z (min o.q z.q)) h g z.p (min o.q z.q)).all.length ≤ _
            omega

/-- what always holds of the market -/
def Mt.Inv (m : Mt) (N : Int) : Prop := m.In N 0 (fun _ => 0) 0

theorem Mt.Inv.ok {m : Mt} {N : Int} (I : m.Inv N) : m.Ok N := Mt.In.ok I (Int.le_refl _) (fun _ _ => Int.le_refl _)

theorem placeE_zero {m : Mt} {o : Od} (h : placeE m o = 0) : refE1 m o = 0 ∧ m.all.length < 60 ∧ (o.s = 0 → m.costOf o ≤ m.mo o.t.toNat) ∧ (o.s = 1 → o.q ≤ m.pc o.t.toNat o.h.toNat o.g.toNat) := by
  have h1 : refE1 m o = 0 := by
    unfold placeE at h
    unfold refE1
    by_cases i1 : okI m.T o.t
    · by_cases i2 : okI m.H o.h
      · by_cases i3 : okI m.G o.g
        · cases i4 : o.fit
          · simp [i1, i2, i3, i4] at h
          · simp [i1, i2, i3]
        · simp [i1, i2, i3] at h
      · simp [i1, i2] at h
    · simp [i1] at h
  rw [placeE_two h1, refE2] at h
  refine ⟨h1, ?_⟩
  split at h
  · omega
  · split at h
    · omega
    · rename_i k1
      split at h
      · omega
      · rename_i k2
        exact ⟨by omega, fun e => by have : ¬ m.mo o.t.toNat < m.costOf o := fun f => k1 ⟨e, f⟩; omega, fun e => by have : ¬ m.pc o.t.toNat o.h.toNat o.g.toNat < o.q := fun f => k2 ⟨e, f⟩; omega⟩

/-- the order has its number, and what it wants is held -/
theorem Mt.Inv.start {m : Mt} {N : Int} (I : m.Inv N) (hn : m.nu + 1 ≤ N) {o : Od} (hE : placeE m o = 0) {h g s : Nat} (eh : o.h = h) (eg : o.g = g) (es : o.s = s) :
    Mid h g (otherS s) N (holdM { m with nu := m.nu + 1 } { o with id := m.nu + 1 }) { o with id := m.nu + 1 } := by
  obtain ⟨h1, h60, hb, hs⟩ := placeE_zero hE
  obtain ⟨i1, i2, i3, i4⟩ := refE1_zero h1
  obtain ⟨bs, bw, bp, bq⟩ := fit_bd i4
  have hh : h < m.H := by have := i2.2; omega
  have hg : g < m.G := by have := i3.2; omega
  have ht : o.t.toNat < m.T := by have := i1.1; have := i1.2; omega
  have hpq := mul_le' (a := o.p) (b := o.q) (A := 100000) (B := 10000) (by omega) bp.2 (by omega) bq.2
  have hr := I.rt h hh
  have hf := fee_le hr hpq.1
  have toh : o.h.toNat = h := by omega
  have tog : o.g.toNat = g := by omega
  have s2 : s < 2 := by omega
  have q : at3 m h g (otherS s) := ⟨hh, hg, by unfold otherS; split <;> omega⟩
  have eos : (o.s : Int) = otherS (otherS s) := by rw [es]; unfold otherS; rcases s with _ | _ | s <;> first | rfl | omega
  have l0 := I.a60
  have mon := I.mon
  have pi' : ∀ a b, a < m.H → b < m.G → 0 ≤ m.pi a b ∧ m.pi a b + 10000 * (m.all.length + (2 : Int)) ≤ 20000 * (m.nu + 1) := fun a b ha hb => by have := I.pi a b ha hb; omega
  have am' : ∀ a b, a < m.H → b < m.G → 0 ≤ m.am a b ∧ m.am a b + 1000000000 * (m.all.length + (2 : Int)) ≤ 2000000000 * (m.nu + 1) := fun a b ha hb => by have := I.am a b ha hb; omega
  have od' : ∀ a b c x, a < m.H → b < m.G → c < 2 → x ∈ m.bk a b c → Od.Ok { m with nu := m.nu + 1 } a b c x := fun a b c x ha hb hc hx => (I.od a b c x ha hb hc hx).of (by show m.nu ≤ m.nu + 1; omega) rfl
  have nu0 := I.nu
  have ifl : (if 0 < o.q then (2 : Int) else 0) = 2 := if_pos (by omega)
  by_cases e : o.s = 0
  · have cost := hb e
    unfold Mt.costOf at cost
    rw [toh] at cost
    have eM : holdM { m with nu := m.nu + 1 } { o with id := m.nu + 1 } = ({ m with nu := m.nu + 1 } : Mt).setMo o.t.toNat (m.mo o.t.toNat - o.p * o.q) := by rw [holdM, if_pos e]
    rw [eM]
    refine ⟨⟨I.bN, I.T1, I.T8, I.G1, I.G4, I.H1, I.H4, I.rt, fun t ht' => ?_, I.pc, I.l20, I.ld, I.a60, fun a b c x ha hb hc hx => (od' a b c x ha hb hc hx).of (Int.le_refl _) rfl, ⟨by show 0 ≤ m.nu + 1; omega, hn⟩, I.ho, I.tm, ?_, fun g' hg' => ?_, ?_, ?_⟩, q, eh, eg, eos, i1, bp, ⟨by show 0 ≤ o.q; omega, bq.2⟩, fun e' => ?_⟩
    · show 0 ≤ if t = o.t.toNat then m.mo o.t.toNat - o.p * o.q else m.mo t
      have := I.mo t ht'
      split <;> omega
    · rw [money_setMo _ _ (by exact ht)]
      show m.money + (m.mo o.t.toNat - o.p * o.q - m.mo o.t.toNat) + airM { o with id := m.nu + 1 } ≤ _
      have : airM { o with id := m.nu + 1 } = o.p * o.q := by unfold airM; rw [if_pos e]
      omega
    · have : airP { o with id := m.nu + 1 } g' = 0 := by unfold airP; rw [if_neg (fun f => by have : o.s = 1 := f.1; omega)]
      have k := I.stk g' hg'
      rw [stock_setMo, this]
      exact k
    · intro a b ha hb
      show 0 ≤ m.pi a b ∧ m.pi a b + 10000 * (m.all.length + (if 0 < o.q then (2 : Int) else 0)) ≤ 20000 * (m.nu + 1)
      rw [ifl]
      exact pi' a b ha hb
    · intro a b ha hb
      show 0 ≤ m.am a b ∧ m.am a b + 1000000000 * (m.all.length + (if 0 < o.q then (2 : Int) else 0)) ≤ 2000000000 * (m.nu + 1)
      rw [ifl]
      exact am' a b ha hb
    · show m.fee h (o.p * o.q) ≤ if o.t.toNat = o.t.toNat then m.mo o.t.toNat - o.p * o.q else m.mo o.t.toNat
      rw [if_pos rfl]
      omega
  · have e1 : o.s = 1 := by omega
    have stk := hs e1
    rw [toh, tog] at stk
    have eM : holdM { m with nu := m.nu + 1 } { o with id := m.nu + 1 } = ({ m with nu := m.nu + 1 } : Mt).setPc o.t.toNat h g (m.pc o.t.toNat h g - o.q) := by rw [holdM, if_neg e]; simp only [toh, tog]
    rw [eM]
    refine ⟨⟨I.bN, I.T1, I.T8, I.G1, I.G4, I.H1, I.H4, I.rt, I.mo, fun a b c ha hb hc => ?_, I.l20, I.ld, I.a60, fun a b c x ha hb hc hx => (od' a b c x ha hb hc hx).of (Int.le_refl _) rfl, ⟨by show 0 ≤ m.nu + 1; omega, hn⟩, I.ho, I.tm, ?_, fun g' hg' => ?_, ?_, ?_⟩, q, eh, eg, eos, i1, bp, ⟨by show 0 ≤ o.q; omega, bq.2⟩, fun e' => ?_⟩
    · show 0 ≤ if a = o.t.toNat ∧ b = h ∧ c = g then m.pc o.t.toNat h g - o.q else m.pc a b c
      have := I.pc a b c ha hb hc
      split <;> omega
    · have : airM { o with id := m.nu + 1 } = 0 := by unfold airM; rw [if_neg e]
      rw [money_setPc, this]
      exact mon
    · have k := I.stk g' hg'
      rw [stock_setPc _ _ _ _ (by exact ht) (by exact hh)]
      show m.stock g' + (if g' = g then m.pc o.t.toNat h g - o.q - m.pc o.t.toNat h g else 0) + airP { o with id := m.nu + 1 } g' ≤ _
      have k' : m.stock g' + 0 ≤ 1000000 := k
      unfold airP
      by_cases eg' : g' = g
      · rw [if_pos eg', if_pos ⟨e1, by rw [eg, eg']⟩]
        show _ + o.q ≤ _
        omega
      · rw [if_neg eg', if_neg (fun f => eg' (by have : o.g = g' := f.2; omega))]
        omega
    · intro a b ha hb
      show 0 ≤ m.pi a b ∧ m.pi a b + 10000 * (m.all.length + (if 0 < o.q then (2 : Int) else 0)) ≤ 20000 * (m.nu + 1)
      rw [ifl]
      exact pi' a b ha hb
    · intro a b ha hb
      show 0 ≤ m.am a b ∧ m.am a b + 1000000000 * (m.all.length + (if 0 < o.q then (2 : Int) else 0)) ≤ 2000000000 * (m.nu + 1)
      rw [ifl]
      exact am' a b ha hb
    · exfalso
      have : s = 1 := by omega
      subst this
      simp [otherS] at e'
end

/- The plain market: Place keeps what always holds. -/
section
theorem Adds.put {α : Type} {φ : List α → Int} (A : Adds φ) (l : List α) (i : Nat) (x : α) : φ (putAt l i x) = φ l + φ [x] := by
  have h1 : φ l = φ (l.take i) + φ (l.drop i) := by rw [← A.app, List.take_append_drop]
  unfold putAt
  rw [A.app, A.cons x, h1]
  omega

theorem mem_put {α : Type} {l : List α} {i : Nat} {x y : α} (h : y ∈ putAt l i x) : y = x ∨ y ∈ l := by
  unfold putAt at h
  rcases List.mem_append.1 h with h | h
  · exact .inr (List.mem_of_mem_take h)
  · rcases List.mem_cons.1 h with h | h
    · exact .inl h
    · exact .inr (List.mem_of_mem_drop h)

theorem Mid.settle {h g s : Nat} {N : Int} {m : Mt} {o : Od} (M : Mid h g (otherS s) N m o) (es : o.s = s) (s2 : s < 2) (hid : o.id = m.nu) (hn1 : 1 ≤ m.nu) (hw : 0 ≤ o.w ∧ o.w ≤ 3) (h60 : m.all.length < 60) : (settleM m o).Inv N := by
  obtain ⟨q1, q2, _⟩ := M.q
  have q : at3 m h g s := ⟨q1, q2, s2⟩
  have ot := M.t
  have hz : o.t.toNat < m.T := by omega
  have op := M.p
  have oq := M.n
  have eh := M.eh
  have eg := M.eg
  have toh : o.h.toNat = h := by omega
  have tog : o.g.toNat = g := by omega
  have tos : o.s.toNat = s := by omega
  have mon := M.I.mon
  have stk := M.I.stk
  have hpq := mul_le' (a := o.p) (b := o.q) (A := 100000) (B := 10000) (by omega) op.2 oq.1 oq.2
  have sl : 0 ≤ (if 0 < o.q then (2 : Int) else 0) := by split <;> omega
  have pi' := M.I.pi
  have am' := M.I.am
  unfold settleM Mt.Inv
  split
  · rename_i hq
    have sl2 : (if 0 < o.q then (2 : Int) else 0) = 2 := if_pos hq.1
    rw [sl2] at pi' am'
    unfold waitM
    rw [toh, tog, tos]
    obtain ⟨k, hk⟩ : ∃ k, k = slot (ahAt (m.bk h g s) s o) (m.bk h g s).length := ⟨_, rfl⟩
    rw [← hk]
    have al := all_setBk m q (putAt (m.bk h g s) k o)
    have pl := (adds_len (α := Od)).put (m.bk h g s) k o
    simp only [List.length_singleton] at pl
    have he := (adds_heldS m.T).put (m.bk h g s) k o
    have ke := (adds_keptS m.T).put (m.bk h g s) k o
    rw [heldS_one M.t] at he
    rw [keptS_one M.t] at ke
    refine ⟨M.I.bN, M.I.T1, M.I.T8, M.I.G1, M.I.G4, M.I.H1, M.I.H4, M.I.rt, M.I.mo, M.I.pc, M.I.l20, M.I.ld, by omega, fun a b c x ha hb hc hx => ?_, M.I.nu, M.I.ho, M.I.tm, ?_, fun g' hg' => ?_, fun a b ha hb => ?_, fun a b ha hb => ?_⟩
    · by_cases e : a = h ∧ b = g ∧ c = s
      · obtain ⟨rfl, rfl, rfl⟩ := e
        have hx' : x ∈ putAt (m.bk a b c) k o := by simpa [Mt.setBk] using hx
        rcases mem_put hx' with rfl | hx'
        · exact ⟨⟨by rw [hid]; exact hn1, by rw [hid]; exact Int.le_refl _⟩, M.t, eh, eg, es, op, ⟨by omega, oq.2⟩, hw⟩
        · exact (M.I.od a b c x ha hb hc hx').of (Int.le_refl _) rfl
      · exact (M.I.od a b c x ha hb hc (by simpa [Mt.setBk, e] using hx)).of (Int.le_refl _) rfl
    · rw [money_setBk m q, he]
      show _ + _ + (0 : Int) ≤ _
      unfold airM at mon
      omega
    · rw [stock_setBk m q]
      have k1 := stk g' hg'
      unfold airP at k1
      show _ + _ + (0 : Int) ≤ _
      by_cases e : s = 1 ∧ g' = g
      · obtain ⟨rfl, rfl⟩ := e
        rw [if_pos ⟨es, by rw [eg]⟩] at k1
        rw [if_pos ⟨rfl, rfl⟩, ke]
        omega
      · rw [if_neg e]
        rw [if_neg (fun f => e ⟨by omega, by have := f.2; omega⟩)] at k1
        omega
    · have := pi' a b ha hb
      show 0 ≤ m.pi a b ∧ m.pi a b + 10000 * (_ + 0) ≤ 20000 * m.nu
      omega
    · have := am' a b ha hb
      show 0 ≤ m.am a b ∧ m.am a b + 1000000000 * (_ + 0) ≤ 2000000000 * m.nu
      omega
  · rw [toh, tog, tos]
    unfold releaseM
    by_cases e : s = 0
    · subst e
      have o0 : o.s = 0 := es
      rw [if_pos rfl]
      have a1 : airM o = o.p * o.q := by unfold airM; rw [if_pos o0]
      refine ⟨M.I.bN, M.I.T1, M.I.T8, M.I.G1, M.I.G4, M.I.H1, M.I.H4, M.I.rt, fun t ht => ?_, M.I.pc, M.I.l20, M.I.ld, M.I.a60, fun a b c x ha hb hc hx => (M.I.od a b c x ha hb hc hx).of (Int.le_refl _) rfl, M.I.nu, M.I.ho, M.I.tm, ?_, fun g' hg' => ?_, fun a b ha hb => ?_, fun a b ha hb => ?_⟩
      · show 0 ≤ if t = o.t.toNat then m.mo o.t.toNat + o.p * o.q else m.mo t
        have := M.I.mo t ht
        have := M.I.mo _ hz
        split <;> omega
      · rw [money_setMo _ _ hz]
        show _ + _ + (0 : Int) ≤ _
        omega
      · have k1 := stk g' hg'
        have := airP_nonneg (o := o) oq.1 g'
        rw [stock_setMo]
        show _ + (0 : Int) ≤ _
        omega
      · have := pi' a b ha hb
        show 0 ≤ m.pi a b ∧ m.pi a b + 10000 * (m.all.length + 0) ≤ 20000 * m.nu
        omega
      · have := am' a b ha hb
        show 0 ≤ m.am a b ∧ m.am a b + 1000000000 * (m.all.length + 0) ≤ 2000000000 * m.nu
        omega
    · have s1 : s = 1 := by omega
      subst s1
      have o1 : o.s = 1 := es
      rw [if_neg (by decide)]
      have a1 : airM o = 0 := by unfold airM; rw [if_neg (by omega)]
      refine ⟨M.I.bN, M.I.T1, M.I.T8, M.I.G1, M.I.G4, M.I.H1, M.I.H4, M.I.rt, M.I.mo, fun a b c ha hb hc => ?_, M.I.l20, M.I.ld, M.I.a60, fun a b c x ha hb hc hx => (M.I.od a b c x ha hb hc hx).of (Int.le_refl _) rfl, M.I.nu, M.I.ho, M.I.tm, ?_, fun g' hg' => ?_, fun a b ha hb => ?_, fun a b ha hb => ?_⟩
      · show 0 ≤ if a = o.t.toNat ∧ b = h ∧ c = g then m.pc o.t.toNat h g + o.q else m.pc a b c
        have := M.I.pc a b c ha hb hc
        have := M.I.pc _ _ _ hz q1 q2
        split <;> omega
      · rw [money_setPc]
        show _ + (0 : Int) ≤ _
        omega
      · have k1 := stk g' hg'
        unfold airP at k1
        rw [stock_setPc _ _ _ _ hz q1]
        show _ + (if g' = g then m.pc o.t.toNat h g + o.q - m.pc o.t.toNat h g else 0) + (0 : Int) ≤ _
        by_cases e' : g' = g
        · rw [if_pos ⟨o1, by rw [eg, e']⟩] at k1
          rw [if_pos e']
          omega
        · rw [if_neg (fun f => e' (by have := f.2; omega))] at k1
          rw [if_neg e']
          omega
      · have := pi' a b ha hb
        show 0 ≤ m.pi a b ∧ m.pi a b + 10000 * (m.all.length + 0) ≤ 20000 * m.nu
        omega
      · have := am' a b ha hb
        show 0 ≤ m.am a b ∧ m.am a b + 1000000000 * (m.all.length + 0) ≤ 2000000000 * m.nu
        omega

theorem same_hold (m : Mt) (o : Od) : Same m (holdM m o) := by unfold holdM; split <;> exact ⟨rfl, rfl, rfl, rfl, rfl, rfl, rfl⟩
theorem bk_hold (m : Mt) (o : Od) : (holdM m o).bk = m.bk := by unfold holdM; split <;> rfl
theorem all_hold (m : Mt) (o : Od) : (holdM m o).all = m.all := by unfold Mt.all; rw [bk_hold, (same_hold m o).G, (same_hold m o).H]

/-- behind the match -/
theorem Mt.Inv.mid {m : Mt} {N : Int} (I : m.Inv N) (hn : m.nu + 1 ≤ N) {o : Od} (hE : placeE m o = 0) {h g s : Nat} (eh : o.h = h) (eg : o.g = g) (es : o.s = s) :
    Mid h g (otherS s) N (placed m o).1 (placed m o).2.1 ∧ (placed m o).1.all.length < 60 ∧ (placed m o).1.nu = m.nu + 1 ∧ ∃ x, (placed m o).2.1 = { o with id := m.nu + 1, q := x } := by
  have M0 := I.start hn hE eh eg es
  have toh : o.h.toNat = h := by omega
  have tog : o.g.toNat = g := by omega
  have tos : o.s.toNat = s := by omega
  unfold placed
  rw [toh, tog, tos]
  have hb : (holdM { m with nu := m.nu + 1 } { o with id := m.nu + 1 }).bk h g (otherS s) = m.bk h g (otherS s) := by rw [bk_hold]
  refine ⟨(run_mid h g (otherS s) N).out _ _ _ hb M0, ?_, ?_, ?_⟩
  · have l := matchM_all (m.bk h g (otherS s)) (holdM { m with nu := m.nu + 1 } { o with id := m.nu + 1 }) { o with id := m.nu + 1 } M0.q hb
    rw [all_hold] at l
    have := (placeE_zero hE).2.1
    exact Nat.lt_of_le_of_lt l this
  · rw [(matchM_same _ _ _).nu, (same_hold _ _).nu]
  · obtain ⟨x, hx⟩ := matchM_o (h := h) (g := g) (s := otherS s) (m.bk h g (otherS s)) (holdM { m with nu := m.nu + 1 } { o with id := m.nu + 1 }) { o with id := m.nu + 1 }
    exact ⟨x, hx⟩

theorem Mt.Inv.place {m : Mt} {N : Int} (I : m.Inv N) (hn : m.nu + 1 ≤ N) (o : Od) : (placeM m o).Inv N := by
  unfold placeM
  split
  · rename_i hE
    have i := (refE1_zero (placeE_zero hE).1)
    obtain ⟨bs, bw, bp, bq⟩ := fit_bd i.2.2.2
    obtain ⟨h, eh⟩ : ∃ h : Nat, o.h = h := ⟨o.h.toNat, by have := i.2.1.1; omega⟩
    obtain ⟨g, eg⟩ : ∃ g : Nat, o.g = g := ⟨o.g.toNat, by have := i.2.2.1.1; omega⟩
    obtain ⟨s, es⟩ : ∃ s : Nat, o.s = s := ⟨o.s.toNat, by omega⟩
    obtain ⟨M, l, n, x, ex⟩ := I.mid hn hE eh eg es
    have nu0 := I.nu
    refine M.settle (s := s) (by rw [ex]; exact es) (by omega) (by rw [ex, n]) (by omega) (by rw [ex]; exact bw) l
  · exact I
end

end Go.Proofs.Ytcfoobhihhndjaa
