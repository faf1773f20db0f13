/- The plain market: all money and all pieces, through a match. -/
import Derived.Test.YtcfoobhihhndjaaB34
import Derived.Test.YtcfoobhihhndjaaB36
import Derived.Test.YtcfoobhihhndjaaB38
namespace Go.Proofs.Ytcfoobhihhndjaa

section
/-- with what the order that came holds -/
def AirSums (m : Mt) (o : Od) (m' : Mt) (o' : Od) : Prop := m'.money + airM o' = m.money + airM o ∧ ∀ g, m'.stock g + airP o' g = m.stock g + airP o g

theorem AirSums.refl (m : Mt) (o : Od) : AirSums m o m o := ⟨rfl, fun _ => rfl⟩
theorem AirSums.trans {m m1 m2 : Mt} {o o1 o2 : Od} (a : AirSums m o m1 o1) (b : AirSums m1 o1 m2 o2) : AirSums m o m2 o2 := ⟨b.1.trans a.1, fun g => (b.2 g).trans (a.2 g)⟩

section
variable {h g s : Nat} {N : Int}

theorem note_sums {m : Mt} {o z : Od} {r : List Od} (M : Mid h g s N m o) (hb : m.bk h g s = z :: r) (n : Int) (p q : Int) : AirSums m o (noteM (oneM m h g s o z n) h g p q) { o with q := o.q - n } :=
  ⟨one_money M hb n, fun g' => one_stock M hb n g'⟩

theorem match_sums : ∀ (l : List Od) (m : Mt) (o : Od), Mid h g s N m o → m.bk h g s = l → AirSums m o (matchM h g s l m o).1 (matchM h g s l m o).2.1
  | [], m, o, _, _ => AirSums.refl m o
  | z :: r, m, o, M, hb => by
    unfold matchM
    have zo := M.I.od h g s z M.q.1 M.q.2.1 M.q.2.2 (by rw [hb]; exact List.mem_cons_self)
    split
    · exact AirSums.refl m o
    split
    · exact AirSums.refl m o
    rename_i hq hf
    have hf' : pfits o z = true := by simpa using hf
    split
    · rename_i ht
      have b := back_sums (i := 0) M.q zo (by rw [hb]; rfl)
      have e : backM m h g s 0 z = releaseM (m.setBk h g s r) z.t.toNat h g s z := by unfold backM; rw [hb]; rfl
      rw [e] at b
      refine AirSums.trans (o1 := o) ⟨by rw [b.1], fun g' => by rw [b.2 g']⟩ (match_sums r _ o (M.tb hb) ?_)
      rw [(releaseM_bk _ _ _ _ _ _).1]
      simp [Mt.setBk]
    rename_i ht
    split
    · rename_i he
      have M1 := M.tr (by omega) hb hf' ht he
      have n1 := note_sums M hb (min o.q z.q) z.p (min o.q z.q)
      have hdm := show (oneM m h g s o z (min o.q z.q)).T = m.T ∧ (oneM m h g s o z (min o.q z.q)).G = m.G ∧ (oneM m h g s o z (min o.q z.q)).H = m.H by unfold oneM; split <;> exact ⟨rfl, rfl, rfl⟩
      have q1 : at3 (noteM (oneM m h g s o z (min o.q z.q)) h g z.p (min o.q z.q)) h g s := by
        show h < (oneM m h g s o z (min o.q z.q)).H ∧ g < (oneM m h g s o z (min o.q z.q)).G ∧ s < 2
        rw [hdm.2.1, hdm.2.2]
        exact M.q
      have xb : (noteM (oneM m h g s o z (min o.q z.q)) h g z.p (min o.q z.q)).bk h g s = { z with q := z.q - min o.q z.q } :: r := by
        show (oneM m h g s o z (min o.q z.q)).bk h g s = _
        rw [one_bk (m := m) (h := h) (g := g) (s := s) (o := o) (z := z) M.q.2.2 _, hb]
        simp [Mt.setBk]
      have xT : (noteM (oneM m h g s o z (min o.q z.q)) h g z.p (min o.q z.q)).T = m.T := hdm.1
      have c1 := (adds_heldS m.T).cons { z with q := z.q - min o.q z.q } r
      have c2 := (adds_keptS m.T).cons { z with q := z.q - min o.q z.q } r
      have d1 := heldS_one (T := m.T) (o := { z with q := z.q - min o.q z.q }) zo.t
      have d2 := keptS_one (T := m.T) (o := { z with q := z.q - min o.q z.q }) zo.t
      have d3 : ({ z with q := z.q - min o.q z.q } : Od).q = 0 := he
      rw [d3] at d1 d2
      have d4 : heldS m.T [{ z with q := z.q - min o.q z.q }] = 0 := by rw [d1]; split <;> simp
      refine AirSums.trans (n1.trans (o1 := { o with q := o.q - min o.q z.q }) (o2 := { o with q := o.q - min o.q z.q }) ?_) (match_sums r _ _ M1 (by simp [Mt.setBk]))
      refine ⟨?_, fun g' => ?_⟩
      · rw [money_setBk _ q1, xT, xb]
        omega
      · rw [stock_setBk _ q1, xT]
        by_cases e : s = 1 ∧ g' = g
        · rw [if_pos e]
          obtain ⟨es, eg⟩ := e
          subst es
          rw [xb]
          omega
        · rw [if_neg e]; omega
    · exact note_sums M hb _ _ _
end
end

/- The plain market: all money and all pieces, through Place. -/
section
theorem settle_sums {h g s : Nat} {N : Int} {m : Mt} {o : Od} (M : Mid h g (otherS s) N m o) (es : o.s = s) (s2 : s < 2) : (settleM m o).money = m.money + airM o ∧ ∀ g', (settleM m o).stock g' = m.stock g' + airP o g' := by
  obtain ⟨q1, q2, _⟩ := M.q
  have q : at3 m h g s := ⟨q1, q2, s2⟩
  have ot := M.t
  have hz : o.t.toNat < m.T := by omega
  have eh := M.eh
  have eg := M.eg
  have toh : o.h.toNat = h := by omega
  have tog : o.g.toNat = g := by omega
  have tos : o.s.toNat = s := by omega
  unfold settleM
  split
  · unfold waitM
    rw [toh, tog, tos]
    obtain ⟨k, hk⟩ : ∃ k, k = slot (ahAt (m.bk h g s) s o) (m.bk h g s).length := ⟨_, rfl⟩
    rw [← hk]
    have he := (adds_heldS m.T).put (m.bk h g s) k o
    have ke := (adds_keptS m.T).put (m.bk h g s) k o
    rw [heldS_one M.t] at he
    rw [keptS_one M.t] at ke
    refine ⟨?_, fun g' => ?_⟩
    · rw [money_setBk m q, he]
      unfold airM
      omega
    · rw [stock_setBk m q]
      unfold airP
      by_cases e : s = 1 ∧ g' = g
      · obtain ⟨rfl, rfl⟩ := e
        rw [if_pos ⟨rfl, rfl⟩, if_pos ⟨es, eg⟩, ke]
        omega
      · rw [if_neg e, if_neg (fun f => e ⟨by omega, by have := f.2; omega⟩)]
  · rw [toh, tog, tos]
    unfold releaseM
    by_cases e : s = 0
    · subst e
      have o0 : o.s = 0 := es
      rw [if_pos rfl]
      refine ⟨?_, fun g' => ?_⟩
      · rw [money_setMo _ _ hz]
        unfold airM
        rw [if_pos o0]
        omega
      · rw [stock_setMo]
        unfold airP
        rw [if_neg (fun f => by have := f.1; omega)]
        omega
    · obtain rfl : s = 1 := by omega
      have o1 : o.s = 1 := es
      rw [if_neg (by decide)]
      refine ⟨?_, fun g' => ?_⟩
      · rw [money_setPc]
        unfold airM
        rw [if_neg (by omega)]
        omega
      · rw [stock_setPc _ _ _ _ hz q1]
        unfold airP
        by_cases e' : g' = g
        · rw [if_pos e', if_pos ⟨o1, by rw [eg, e']⟩]; omega
        · rw [if_neg e', if_neg (fun f => e' (by have := f.2; omega))]

theorem held_start {m : Mt} {o : Od} {h g s : Nat} (hz : o.t.toNat < m.T) (hh : h < m.H) (eh : o.h = h) (eg : o.g = g) (es : o.s = s) (s2 : s < 2) : (holdM m o).money + airM o = m.money ∧ ∀ g', (holdM m o).stock g' + airP o g' = m.stock g' := by
  have toh : o.h.toNat = h := by omega
  have tog : o.g.toNat = g := by omega
  unfold holdM
  rw [toh, tog]
  by_cases e : s = 0
  · subst e
    have o0 : o.s = 0 := es
    rw [if_pos o0]
    refine ⟨?_, fun g' => ?_⟩
    · rw [money_setMo _ _ hz]
      unfold airM
      rw [if_pos o0]
      omega
    · rw [stock_setMo]
      unfold airP
      rw [if_neg (fun f => by have := f.1; omega)]
      omega
  · obtain rfl : s = 1 := by omega
    have o1 : o.s = 1 := es
    rw [if_neg (by omega)]
    refine ⟨?_, fun g' => ?_⟩
    · rw [money_setPc]
      unfold airM
      rw [if_neg (by omega)]
      omega
    · rw [stock_setPc _ _ _ _ hz hh]
      unfold airP
      by_cases e' : g' = g
      · rw [if_pos e', if_pos ⟨o1, by rw [eg, e']⟩]; omega
      · rw [if_neg e', if_neg (fun f => e' (by have := f.2; omega))]; omega

/-- Place makes and loses no money and no pieces -/
theorem place_sums {m : Mt} {N : Int} (I : m.Inv N) (hn : m.nu + 1 ≤ N) (o : Od) : SameSums m (placeM m o) := by
  unfold placeM
  split
  · rename_i hE
    have i := (refE1_zero (placeE_zero hE).1)
    obtain ⟨bs, bw, bp, bq⟩ := fit_bd i.2.2.2
    obtain ⟨h, eh⟩ : ∃ h : Nat, o.h = h := ⟨o.h.toNat, by have := i.2.1.1; omega⟩
    obtain ⟨g, eg⟩ : ∃ g : Nat, o.g = g := ⟨o.g.toNat, by have := i.2.2.1.1; omega⟩
    obtain ⟨s, es⟩ : ∃ s : Nat, o.s = s := ⟨o.s.toNat, by omega⟩
    have s2 : s < 2 := by omega
    have M0 := I.start hn hE eh eg es
    obtain ⟨M1, l1, n1, x, ex⟩ := I.mid hn hE eh eg es
    have toh : o.h.toNat = h := by omega
    have tog : o.g.toNat = g := by omega
    have tos : o.s.toNat = s := by omega
    have hb : (holdM { m with nu := m.nu + 1 } { o with id := m.nu + 1 }).bk h g (otherS s) = m.bk h g (otherS s) := by rw [bk_hold]
    have A := match_sums _ _ _ M0 hb
    have A' : AirSums (holdM { m with nu := m.nu + 1 } { o with id := m.nu + 1 }) { o with id := m.nu + 1 } (placed m o).1 (placed m o).2.1 := by
      unfold placed
      rw [toh, tog, tos]
      exact A
    have hh : h < m.H := by have := i.2.1.2; omega
    have B := held_start (m := { m with nu := m.nu + 1 }) (o := { o with id := m.nu + 1 }) (h := h) (g := g) (s := s) (show o.t.toNat < m.T by have := i.1; omega) hh eh eg es s2
    have C := settle_sums M1 (by rw [ex]; exact es) s2
    refine ⟨?_, fun g' => ?_⟩
    · rw [C.1, A'.1, B.1]; rfl
    · rw [C.2, A'.2, B.2]; rfl
  · exact ⟨rfl, fun _ => rfl⟩
end

/- The plain market: what always holds, through Change. -/
section
theorem all_eq {m m' : Mt} (hG : m'.G = m.G) (hH : m'.H = m.H) (hb : m'.bk = m.bk) : m'.all = m.all := by unfold Mt.all; rw [hG, hH, hb]

theorem Mt.Inv.less {m : Mt} {N : Int} (I : m.Inv N) {h g s : Nat} (q : at3 m h g s) {i : Nat} {o : Od} (hb : (m.bk h g s)[i]? = some o) {n : Int} (b1 : 1 ≤ n) (b2 : n ≤ o.q) : (lessM m h g s i o n).Inv N := by
  have oo := I.od h g s o q.1 q.2.1 q.2.2 (List.mem_of_getElem? hb)
  have oq := oo.q
  have op := oo.p
  have ot := oo.t
  have hz : o.t.toNat < m.T := by omega
  obtain ⟨s1, s2⟩ := less_sums q oo hb b1 (by omega)
  have hmul : o.p * n ≤ o.p * o.q := Int.mul_le_mul_of_nonneg_left b2 (by omega)
  have ebk : (lessM m h g s i o n).bk = (m.setBk h g s ((m.bk h g s).set i { o with q := n })).bk := by
    unfold lessM
    rw [(holdM_bk' _ _ _ _ _ _).1]
    show (fun a b c => if a = h ∧ b = g ∧ c = s then _ else (releaseM m o.t.toNat h g s o).bk a b c) = _
    rw [(releaseM_bk m o.t.toNat h g s o).1]
    rfl
  have eT : (lessM m h g s i o n).T = m.T ∧ (lessM m h g s i o n).G = m.G ∧ (lessM m h g s i o n).H = m.H := by
    unfold lessM holdH releaseM
    by_cases e : s = 0
    · rw [if_pos e, if_pos e]; exact ⟨rfl, rfl, rfl⟩
    · rw [if_neg e, if_neg e]; exact ⟨rfl, rfl, rfl⟩
  have er : (lessM m h g s i o n).rt = m.rt ∧ (lessM m h g s i o n).ld = m.ld ∧ (lessM m h g s i o n).nu = m.nu ∧ (lessM m h g s i o n).ho = m.ho ∧ (lessM m h g s i o n).tm = m.tm ∧ (lessM m h g s i o n).pi = m.pi ∧ (lessM m h g s i o n).am = m.am := by
    unfold lessM holdH releaseM
    by_cases e : s = 0
    · rw [if_pos e, if_pos e]; exact ⟨rfl, rfl, rfl, rfl, rfl, rfl, rfl⟩
    · rw [if_neg e, if_neg e]; exact ⟨rfl, rfl, rfl, rfl, rfl, rfl, rfl⟩
  have al : (lessM m h g s i o n).all.length = m.all.length := by
    have e : (lessM m h g s i o n).all = (m.setBk h g s ((m.bk h g s).set i { o with q := n })).all := all_eq eT.2.1 eT.2.2 ebk
    have := all_setBk m q ((m.bk h g s).set i { o with q := n })
    rw [List.length_set] at this
    rw [e]
    omega
  have emo : ∀ t, t < m.T → 0 ≤ (lessM m h g s i o n).mo t := fun t ht => by
    have k1 := I.mo t ht
    have k2 := I.mo _ hz
    unfold lessM holdH releaseM
    by_cases e : s = 0
    · rw [if_pos e, if_pos e]
      show 0 ≤ if t = o.t.toNat then (if o.t.toNat = o.t.toNat then m.mo o.t.toNat + o.p * o.q else m.mo o.t.toNat) - o.p * n else if t = o.t.toNat then m.mo o.t.toNat + o.p * o.q else m.mo t
      rw [if_pos rfl]
      split <;> omega
    · rw [if_neg e, if_neg e]
      exact k1
  have epc : ∀ a b c, a < m.T → b < m.H → c < m.G → 0 ≤ (lessM m h g s i o n).pc a b c := fun a b c ha hb' hc => by
    have k1 := I.pc a b c ha hb' hc
    have k2 := I.pc _ _ _ hz q.1 q.2.1
    unfold lessM holdH releaseM
    by_cases e : s = 0
    · rw [if_pos e, if_pos e]
      exact k1
    · rw [if_neg e, if_neg e]
      show 0 ≤ if a = o.t.toNat ∧ b = h ∧ c = g then (if o.t.toNat = o.t.toNat ∧ h = h ∧ g = g then m.pc o.t.toNat h g + o.q else m.pc o.t.toNat h g) - n else if a = o.t.toNat ∧ b = h ∧ c = g then m.pc o.t.toNat h g + o.q else m.pc a b c
      rw [if_pos (show o.t.toNat = o.t.toNat ∧ h = h ∧ g = g from ⟨rfl, rfl, rfl⟩)]
      split <;> omega
  obtain ⟨e1, e2, e3, e4, e5, e6, e7⟩ := er
  obtain ⟨t1, t2, t3⟩ := eT
  refine ⟨I.bN, by rw [t1]; exact I.T1, by rw [t1]; exact I.T8, by rw [t2]; exact I.G1, by rw [t2]; exact I.G4, by rw [t3]; exact I.H1, by rw [t3]; exact I.H4, by rw [t3, e1]; exact I.rt, by rw [t1]; exact emo, by rw [t1, t2, t3]; exact epc, by rw [e2]; exact I.l20, by rw [e2, t1, t2, t3]; exact I.ld, by rw [al]; exact I.a60, fun a b c x ha hb' hc hx => ?_, by rw [e3]; exact I.nu, by rw [e4]; exact I.ho, by rw [e5]; exact I.tm, by rw [s1]; exact I.mon, fun g' hg' => by rw [s2]; exact I.stk g' (t2 ▸ hg'), fun a b ha hb' => by rw [e6, al, e3]; exact I.pi a b (t3 ▸ ha) (t2 ▸ hb'), fun a b ha hb' => by rw [e7, al, e3]; exact I.am a b (t3 ▸ ha) (t2 ▸ hb')⟩
  rw [ebk] at hx
  rw [t3] at ha
  rw [t2] at hb'
  by_cases e : a = h ∧ b = g ∧ c = s
  · obtain ⟨rfl, rfl, rfl⟩ := e
    have hx' : x ∈ (m.bk a b c).set i { o with q := n } := by simpa [Mt.setBk] using hx
    rcases List.mem_or_eq_of_mem_set hx' with f | rfl
    · exact (I.od a b c x ha hb' hc f).of (by rw [e3]; exact Int.le_refl _) t1
    · exact ⟨by rw [e3]; exact oo.id, by rw [t1]; exact oo.t, oo.h, oo.g, oo.s, oo.p, ⟨b1, by show n ≤ 10000; omega⟩, oo.w⟩
  · exact (I.od a b c x ha hb' hc (by simpa [Mt.setBk, e] using hx)).of (by rw [e3]; exact Int.le_refl _) t1

/-- an order that stands again -/
theorem again_eq (m : Mt) (h g s i : Nat) (o : Od) : againM (backM m h g s i o) h g s o = m.setBk h g s (putAt ((m.bk h g s).eraseIdx i) (slot (ahAt ((m.bk h g s).eraseIdx i) s o) ((m.bk h g s).eraseIdx i).length) o) := by
  unfold againM
  rw [hold_back, setBk_setBk]
  have eb : (backM m h g s i o).bk h g s = (m.bk h g s).eraseIdx i := by
    unfold backM
    rw [(releaseM_bk _ _ _ _ _ _).1]
    simp [Mt.setBk]
  rw [eb]

theorem Mt.Inv.again {m : Mt} {N : Int} (I : m.Inv N) {h g s : Nat} (q : at3 m h g s) {i : Nat} {o : Od} (hb : (m.bk h g s)[i]? = some o) : (againM (backM m h g s i o) h g s o).Inv N := by
  have oo := I.od h g s o q.1 q.2.1 q.2.2 (List.mem_of_getElem? hb)
  obtain ⟨s1, s2⟩ := again_sums q hb
  rw [again_eq] at s1 s2 ⊢
  obtain ⟨k, hk⟩ : ∃ k, k = slot (ahAt ((m.bk h g s).eraseIdx i) s o) ((m.bk h g s).eraseIdx i).length := ⟨_, rfl⟩
  rw [← hk] at s1 s2 ⊢
  have pl := (adds_len (α := Od)).put ((m.bk h g s).eraseIdx i) k o
  simp only [List.length_singleton] at pl
  have l1 := (List.getElem?_eq_some_iff.1 hb).1
  have l2 := List.length_eraseIdx_of_lt l1
  have al := all_setBk m q (putAt ((m.bk h g s).eraseIdx i) k o)
  have al' : (m.setBk h g s (putAt ((m.bk h g s).eraseIdx i) k o)).all.length = m.all.length := by omega
  refine ⟨I.bN, I.T1, I.T8, I.G1, I.G4, I.H1, I.H4, I.rt, I.mo, I.pc, I.l20, I.ld, by rw [al']; exact I.a60, fun a b c x ha hb' hc hx => ?_, I.nu, I.ho, I.tm, by rw [s1]; exact I.mon, fun g' hg' => by rw [s2]; exact I.stk g' hg', fun a b ha hb' => by rw [al']; exact I.pi a b ha hb', fun a b ha hb' => by rw [al']; exact I.am a b ha hb'⟩
  by_cases e : a = h ∧ b = g ∧ c = s
  · obtain ⟨rfl, rfl, rfl⟩ := e
    have hx' : x ∈ putAt ((m.bk a b c).eraseIdx i) k o := by simpa [Mt.setBk] using hx
    rcases mem_put hx' with rfl | f
    · exact oo.of (Int.le_refl _) rfl
    · exact (I.od a b c x ha hb' hc (List.mem_of_mem_eraseIdx f)).of (Int.le_refl _) rfl
  · exact (I.od a b c x ha hb' hc (by simpa [Mt.setBk, e] using hx)).of (Int.le_refl _) rfl

theorem place_nu (m : Mt) (o : Od) : (placeM m o).nu ≤ m.nu + 1 := by
  unfold placeM
  split
  · have e : (settleM (placed m o).1 (placed m o).2.1).nu = (placed m o).1.nu := by
      unfold settleM
      split
      · rfl
      · unfold releaseM; split <;> rfl
    have e2 : (placed m o).1.nu = m.nu + 1 := by unfold placed; rw [(matchM_same _ _ _).nu, (same_hold _ _).nu]
    rw [e, e2]
    exact Int.le_refl _
  · omega

/-- Cancel keeps what always holds, and makes and loses nothing -/
theorem Cancels.keeps {m m' : Mt} {N t id c : Int} (I : m.Inv N) (C : Cancels m t id c m') : m'.Inv N ∧ SameSums m m' := by
  rcases C with ⟨_, _, rfl⟩ | ⟨_, _, _, rfl⟩ | ⟨_, h, g, s, i, o, S, _, rfl⟩
  · exact ⟨I, rfl, fun _ => rfl⟩
  · exact ⟨I, rfl, fun _ => rfl⟩
  · exact ⟨I.back S.q S.ho, back_sums S.q (I.od h g s o S.q.1 S.q.2.1 S.q.2.2 (List.mem_of_getElem? S.ho)) S.ho⟩

/-- Change keeps what always holds, and makes and loses nothing -/
theorem Changes.keeps {m m' : Mt} {N t id p q n c : Int} {ts : List Td} (I : m.Inv N) (hn : m.nu + 1 ≤ N) (C : Changes m t id p q n ts c m') : m'.Inv N ∧ SameSums m m' ∧ m'.nu ≤ m.nu + 1 := by
  rcases C with ⟨_, _, _, _, rfl⟩ | ⟨_, _, _, _, _, rfl⟩ | ⟨_, h, g, s, i, o, S, (⟨_, _, _, _, rfl⟩ | ⟨hf, hA, _, _, _, rfl⟩ | ⟨hf, hA, hE, _, _, _, rfl⟩ | ⟨hf, hA, hE, _, _, _, rfl⟩)⟩
  · exact ⟨I, ⟨rfl, fun _ => rfl⟩, by omega⟩
  · exact ⟨I, ⟨rfl, fun _ => rfl⟩, by omega⟩
  · exact ⟨I, ⟨rfl, fun _ => rfl⟩, by omega⟩
  · have oo := I.od h g s o S.q.1 S.q.2.1 S.q.2.2 (List.mem_of_getElem? S.ho)
    obtain ⟨_, _, _, bq⟩ := fit_bd hf
    have bq' : 1 ≤ q ∧ q ≤ 10000 := bq
    refine ⟨I.less S.q S.ho bq'.1 hA.2, less_sums S.q oo S.ho bq'.1 bq'.2, ?_⟩
    have : (lessM m h g s i o q).nu = m.nu := by
      unfold lessM holdH releaseM
      by_cases e : s = 0
      · rw [if_pos e, if_pos e]; rfl
      · rw [if_neg e, if_neg e]; rfl
    omega
  · have oo := I.od h g s o S.q.1 S.q.2.1 S.q.2.2 (List.mem_of_getElem? S.ho)
    have bn := back_nu m h g s i o
    have B := back_sums S.q oo S.ho
    have I1 := I.back S.q S.ho
    have P := place_sums I1 (by rw [bn.1]; exact hn) (chOd o p q)
    refine ⟨I1.place (by rw [bn.1]; exact hn) _, ⟨P.1.trans B.1, fun g' => (P.2 g').trans (B.2 g')⟩, ?_⟩
    have : (placeM (backM m h g s i o) (chOd o p q)).nu ≤ (backM m h g s i o).nu + 1 := place_nu _ _
    omega
  · refine ⟨I.again S.q S.ho, again_sums S.q S.ho, ?_⟩
    rw [again_eq]
    show m.nu ≤ _
    omega
end

/- The desk's calls on its market: Place, Cancel, Change, Orders. -/
section
open Go.RowKit Go.Sort

theorem TdPost.pp {w w' : World} {L : PL} {m m' : Mt} {v : Value} {ts : List Td} (P : TdPost w L m m' v ts w') : PPost w L m m' w' := by
  obtain ⟨L', e, hs, R, _⟩ := P.rep
  exact ⟨P.kp, L', e, hs, R⟩

section
variable {w : World} {rs : List Int} {x : Nat} {mon p0 p1 : Int} {m : Mt} {W : World} {N : Int}

/-- a call's ending and the desk behind it, where a market m' of which Q holds has come about -/
def DkE (w : World) (rs : List Int) (x : Nat) (mon p0 p1 : Int) (Q : Mt → Prop) (w' : World) : Prop := ∃ m', Q m' ∧ Desk w rs x mon p0 p1 m' w'

theorem Desk.cancel (D : Desk w rs x mon p0 p1 m W) (I : m.Inv N) (t id : Int) : Calls Try.prog 26 #[.pointer (some ⟨x, 0, none⟩), .int .i64 t, .int .i64 id] W fun e w' => ∃ c, e = .returned (.int .i64 c) ∧ DkE w rs x mon p0 p1 (Cancels m t id c) w' := by
  obtain ⟨L, rv, pb, rfl, D⟩ := D
  exact (cancel_any W L m N t id D.R I.ok).mono fun e w' ⟨c, m', C, h1, h2⟩ => ⟨c, h1, m', C, Desk.pp' rfl D h2⟩

theorem Desk.change (D : Desk w rs x mon p0 p1 m W) (I : m.Inv N) (hn : m.nu + 1 ≤ N) (t id p q : Int) : Calls Try.prog 25 #[.pointer (some ⟨x, 0, none⟩), .int .i64 t, .int .i64 id, .int .i64 p, .int .i64 q] W fun e w' => ∃ n v c, e = .returned (.tuple #[.int .i64 n, v, .int .i64 c]) ∧ DkE w rs x mon p0 p1 (fun m' => ∃ ts, Changes m t id p q n ts c m') w' := by
  obtain ⟨L, rv, pb, rfl, D⟩ := D
  exact (change_any W L m N t id p q D.R I hn).mono fun e w' ⟨n, v, c, ts, m', C, h1, h2⟩ => ⟨n, v, c, h1, m', ⟨ts, C⟩, Desk.pp' rfl D h2.pp⟩

theorem Desk.place (D : Desk w rs x mon p0 p1 m W) (I : m.Inv N) (hn : m.nu + 1 ≤ N) (o : Od) : Calls Try.prog 19 #[.pointer (some ⟨x, 0, none⟩), o.agg] W fun e w' => ∃ v, e = .returned (.tuple #[.int .i64 (placeI m o), v, .int .i64 (placeE m o)]) ∧ Desk w rs x mon p0 p1 (placeM m o) w' := by
  obtain ⟨L, rv, pb, rfl, D⟩ := D
  exact (place_any W L m N D.R I hn o).mono fun e w' ⟨v, h1, h2⟩ => ⟨v, h1, Desk.pp' rfl D h2.pp⟩

theorem Desk.orders (D : Desk w rs x mon p0 p1 m W) (I : m.Inv N) (t : Int) : Calls Try.prog 17 #[.pointer (some ⟨x, 0, none⟩), .int .i64 t] W fun e w' => OrdPost W m t e w' ∧ Desk w rs x mon p0 p1 m w' := by
  have D0 := D
  obtain ⟨L, rv, pb, rfl, D⟩ := D
  exact (orders_any W L m N t D.R I.ok).mono fun e w' h => ⟨h, D0.later h.1⟩
end
end

end Go.Proofs.Ytcfoobhihhndjaa
