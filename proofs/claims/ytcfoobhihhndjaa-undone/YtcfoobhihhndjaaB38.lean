/- The plain market: what always holds, through Cancel. -/
import Derived.Test.YtcfoobhihhndjaaB37
namespace Go.Proofs.Ytcfoobhihhndjaa

section
theorem Adds.erase {α : Type} {φ : List α → Int} (A : Adds φ) : ∀ {l : List α} {i : Nat} {x : α}, l[i]? = some x → φ l = φ [x] + φ (l.eraseIdx i)
  | [], i, x, h => by simp at h
  | y :: l, 0, x, h => by
    obtain rfl : y = x := by simpa using h
    exact A.cons y l
  | y :: l, i + 1, x, h => by
    have ih := A.erase (l := l) (i := i) (x := x) (by simpa using h)
    rw [A.cons y l, List.eraseIdx_cons_succ, A.cons y (l.eraseIdx i), ih]
    omega

theorem Mt.Inv.back {m : Mt} {N : Int} (I : m.Inv N) {h g s : Nat} (q : at3 m h g s) {i : Nat} {z : Od} (hb : (m.bk h g s)[i]? = some z) : (backM m h g s i z).Inv N := by
  unfold backM
  obtain ⟨r, hr⟩ : ∃ r, r = (m.bk h g s).eraseIdx i := ⟨_, rfl⟩
  rw [← hr]
  have zo := I.od h g s z q.1 q.2.1 q.2.2 (List.mem_of_getElem? hb)
  have zt := zo.t
  have hz : z.t.toNat < m.T := by omega
  have zp := zo.p
  have zq := zo.q
  have hm : (m.setBk h g s r).money = m.money + (heldS m.T r - heldS m.T (m.bk h g s)) := by rw [money_setBk m q]
  have h1 : heldS m.T (m.bk h g s) = heldS m.T [z] + heldS m.T r := by rw [hr]; exact (adds_heldS _).erase hb
  have h2 := heldS_one zo.t
  have k1 : keptS m.T (m.bk h g s) = keptS m.T [z] + keptS m.T r := by rw [hr]; exact (adds_keptS _).erase hb
  have k2 := keptS_one zo.t
  have hl := all_setBk m q r
  have hl2 : (m.bk h g s).length = r.length + 1 := by
    have l1 := (List.getElem?_eq_some_iff.1 hb).1
    rw [hr, List.length_eraseIdx_of_lt l1]; omega
  have hod : ∀ a b c o', a < m.H → b < m.G → c < 2 → o' ∈ (m.setBk h g s r).bk a b c → o'.Ok m a b c := by
    intro a b c o' ha hb' hc ho
    by_cases e : a = h ∧ b = g ∧ c = s
    · obtain ⟨rfl, rfl, rfl⟩ := e
      have : o' ∈ r := by simpa [Mt.setBk] using ho
      exact I.od a b c o' ha hb' hc (List.mem_of_mem_eraseIdx (hr ▸ this))
    · exact I.od a b c o' ha hb' hc (by simpa [Mt.setBk, e] using ho)
  have hpq := mul_le' (a := z.p) (b := z.q) (A := 100000) (B := 10000) (by omega) zp.2 (by omega) zq.2
  have a60 : (m.setBk h g s r).all.length ≤ 60 := by have := I.a60; omega
  by_cases e : s = 0
  · subst e
    have hmo := I.mo _ hz
    rw [zo.s] at h2
    simp only [Int.natCast_zero, if_true] at h2
    rw [releaseM, if_pos rfl]
    refine ⟨I.bN, I.T1, I.T8, I.G1, I.G4, I.H1, I.H4, I.rt, fun t ht => ?_, I.pc, I.l20, I.ld, a60, fun a b c o' ha hb' hc ho => (hod a b c o' ha hb' hc ho).of (Int.le_refl _) rfl, I.nu, I.ho, I.tm, ?_, fun g' hg' => ?_, fun a b ha hb' => ?_, fun a b ha hb' => ?_⟩
    · show 0 ≤ if t = z.t.toNat then m.mo z.t.toNat + z.p * z.q else m.mo t
      split
      · omega
      · exact I.mo t ht
    · rw [money_setMo _ _ (by exact hz), hm]
      show m.money + _ + (m.mo z.t.toNat + z.p * z.q - m.mo z.t.toNat) + (0 : Int) ≤ _
      have := I.mon
      omega
    · rw [stock_setMo, stock_setBk m q]
      have := I.stk g' hg'
      simp only [Nat.zero_ne_one, false_and, if_false]
      omega
    · have := I.pi a b ha hb'
      show 0 ≤ m.pi a b ∧ m.pi a b + 10000 * ((m.setBk h g 0 r).all.length + 0) ≤ 20000 * m.nu
      omega
    · have := I.am a b ha hb'
      show 0 ≤ m.am a b ∧ m.am a b + 1000000000 * ((m.setBk h g 0 r).all.length + 0) ≤ 2000000000 * m.nu
      omega
  · have s1 : s = 1 := by have := q.2.2; omega
    subst s1
    have hpc := I.pc _ _ _ hz q.1 q.2.1
    rw [zo.s] at h2
    simp only [Int.natCast_one, Int.one_ne_zero, if_false] at h2
    rw [releaseM, if_neg (by decide)]
    refine ⟨I.bN, I.T1, I.T8, I.G1, I.G4, I.H1, I.H4, I.rt, I.mo, fun a b c ha hb' hc => ?_, I.l20, I.ld, a60, fun a b c o' ha hb' hc ho => (hod a b c o' ha hb' hc ho).of (Int.le_refl _) rfl, I.nu, I.ho, I.tm, ?_, fun g' hg' => ?_, fun a b ha hb' => ?_, fun a b ha hb' => ?_⟩
    · show 0 ≤ if a = z.t.toNat ∧ b = h ∧ c = g then m.pc z.t.toNat h g + z.q else m.pc a b c
      split
      · omega
      · exact I.pc a b c ha hb' hc
    · rw [money_setPc, hm]
      have := I.mon
      omega
    · rw [stock_setPc _ _ _ _ (by exact hz) (by exact q.1), stock_setBk m q]
      have := I.stk g' hg'
      show _ + (if g' = g then m.pc z.t.toNat h g + z.q - m.pc z.t.toNat h g else 0) + _ ≤ _
      by_cases eg : g' = g
      · rw [if_pos eg, if_pos ⟨rfl, eg⟩]
        omega
      · rw [if_neg eg, if_neg (fun f => eg f.2)]
        omega
    · have := I.pi a b ha hb'
      show 0 ≤ m.pi a b ∧ m.pi a b + 10000 * ((m.setBk h g 1 r).all.length + 0) ≤ 20000 * m.nu
      omega
    · have := I.am a b ha hb'
      show 0 ≤ m.am a b ∧ m.am a b + 1000000000 * ((m.setBk h g 1 r).all.length + 0) ≤ 2000000000 * m.nu
      omega

theorem HOk.of {m : Mt} {N : Int} (ok : m.Ok N) {h g s : Nat} {o : Od} (q : at3 m h g s) (oo : o.Ok m h g s) : HOk m h g s o := by
  have T := oo.t
  have p := oo.p
  have n := oo.q
  have h4 := ok.H4
  have g4 := ok.G4
  have bN := ok.bN
  have mo := ok.mo o.t.toNat (by omega)
  have pc := ok.pc o.t.toNat h g (by omega) q.1 q.2.1
  have q1 := q.1
  have q2 := q.2.1
  exact ⟨T, by omega, by omega, q.2.2, oo.h, oo.g, oo.s, by omega, by omega, by omega, by omega⟩

theorem hold_back (m : Mt) (h g s i : Nat) (o : Od) : holdH (backM m h g s i o) o.t.toNat h g s o = m.setBk h g s ((m.bk h g s).eraseIdx i) := by
  unfold holdH backM releaseM
  by_cases e : s = 0
  · rw [if_pos e, if_pos e]
    have : (fun j => if j = o.t.toNat then ((m.setBk h g s ((m.bk h g s).eraseIdx i)).setMo o.t.toNat (m.mo o.t.toNat + o.p * o.q)).mo o.t.toNat - o.p * o.q else ((m.setBk h g s ((m.bk h g s).eraseIdx i)).setMo o.t.toNat (m.mo o.t.toNat + o.p * o.q)).mo j) = m.mo := by
      funext j
      by_cases f : j = o.t.toNat
      · simp [Mt.setMo, f]
      · simp [Mt.setMo, Mt.setBk, f]
    show { (m.setBk h g s ((m.bk h g s).eraseIdx i)) with mo := (fun j => if j = o.t.toNat then ((m.setBk h g s ((m.bk h g s).eraseIdx i)).setMo o.t.toNat (m.mo o.t.toNat + o.p * o.q)).mo o.t.toNat - o.p * o.q else ((m.setBk h g s ((m.bk h g s).eraseIdx i)).setMo o.t.toNat (m.mo o.t.toNat + o.p * o.q)).mo j) } = _
    rw [this]
    rfl
  · rw [if_neg e, if_neg e]
    have : (fun a b c => if a = o.t.toNat ∧ b = h ∧ c = g then ((m.setBk h g s ((m.bk h g s).eraseIdx i)).setPc o.t.toNat h g (m.pc o.t.toNat h g + o.q)).pc o.t.toNat h g - o.q else ((m.setBk h g s ((m.bk h g s).eraseIdx i)).setPc o.t.toNat h g (m.pc o.t.toNat h g + o.q)).pc a b c) = m.pc := by
      funext a b c
      by_cases f : a = o.t.toNat ∧ b = h ∧ c = g
      · simp [Mt.setPc, f]
      · simp [Mt.setPc, Mt.setBk, f]
    show { (m.setBk h g s ((m.bk h g s).eraseIdx i)) with pc := (fun a b c => if a = o.t.toNat ∧ b = h ∧ c = g then ((m.setBk h g s ((m.bk h g s).eraseIdx i)).setPc o.t.toNat h g (m.pc o.t.toNat h g + o.q)).pc o.t.toNat h g - o.q else ((m.setBk h g s ((m.bk h g s).eraseIdx i)).setPc o.t.toNat h g (m.pc o.t.toNat h g + o.q)).pc a b c) } = _
    rw [this]
    rfl

theorem Mt.Ok.less {m : Mt} {N : Int} (ok : m.Ok N) {h g s i : Nat} (q : at3 m h g s) : (m.setBk h g s ((m.bk h g s).eraseIdx i)).Ok N := by
  have hl := all_setBk m q ((m.bk h g s).eraseIdx i)
  have h2 := List.length_eraseIdx_le (m.bk h g s) i
  refine ⟨ok.bN, ok.T1, ok.T8, ok.G1, ok.G4, ok.H1, ok.H4, ok.rt, ok.mo, ok.pc, ok.l20, ok.ld, by have := ok.a60; omega, fun a b c o ha hb hc ho => ?_, ok.nu, ok.ho, ok.tm⟩
  by_cases e : a = h ∧ b = g ∧ c = s
  · obtain ⟨rfl, rfl, rfl⟩ := e
    have : o ∈ (m.bk a b c).eraseIdx i := by simpa [Mt.setBk] using ho
    exact (ok.od a b c o ha hb hc (List.mem_of_mem_eraseIdx this)).of (Int.le_refl _) rfl
  · exact (ok.od a b c o ha hb hc (by simpa [Mt.setBk, e] using ho)).of (Int.le_refl _) rfl
end

/- The program's market: Change. -/
section
open Go.RowKit Go.Sort

/-- an order with another price and other pieces -/
def chOd (o : Od) (p q : Int) : Od := { o with p := p, q := q, w := 0 }

/-- Change, its answers and the market behind it -/
def Changes (m : Mt) (t id p q : Int) (n : Int) (ts : List Td) (c : Int) (m' : Mt) : Prop :=
  (¬ okI m.T t ∧ n = 0 ∧ ts = [] ∧ c = 2 ∧ m' = m) ∨
  (okI m.T t ∧ NoSpot m t id ∧ n = 0 ∧ ts = [] ∧ c = 9 ∧ m' = m) ∨
  (okI m.T t ∧ ∃ h g s i o, Spot m t id h g s i o ∧
    (((chOd o p q).fit = false ∧ n = 0 ∧ ts = [] ∧ c = 5 ∧ m' = m) ∨
     ((chOd o p q).fit = true ∧ (p = o.p ∧ q ≤ o.q) ∧ n = id ∧ ts = [] ∧ c = 0 ∧ m' = lessM m h g s i o q) ∨
     ((chOd o p q).fit = true ∧ ¬ (p = o.p ∧ q ≤ o.q) ∧ placeE (backM m h g s i o) (chOd o p q) = 0 ∧ n = placeI (backM m h g s i o) (chOd o p q) ∧ ts = placeT (backM m h g s i o) (chOd o p q) ∧ c = 0 ∧ m' = placeM (backM m h g s i o) (chOd o p q)) ∨
     ((chOd o p q).fit = true ∧ ¬ (p = o.p ∧ q ≤ o.q) ∧ placeE (backM m h g s i o) (chOd o p q) ≠ 0 ∧ n = 0 ∧ ts = [] ∧ c = placeE (backM m h g s i o) (chOd o p q) ∧ m' = againM (backM m h g s i o) h g s o)))

def ChPost (w : World) (L : PL) (m : Mt) (t id p q : Int) (e : Ending) (w' : World) : Prop := ∃ n v c ts m', Changes m t id p q n ts c m' ∧ e = .returned (.tuple #[.int .i64 n, v, .int .i64 c]) ∧ TdPost w L m m' v ts w'

theorem PPost.td {w w' : World} {L : PL} {m m' : Mt} (P : PPost w L m m' w') : TdPost w L m m' (.slice none 0 0) [] w' := by
  obtain ⟨L', e, hs, R⟩ := P.rep
  exact ⟨P.kp, ⟨L', e, hs, R, fun b hb => by simp [Value.ownBlock] at hb⟩, rfl, .inl ⟨rfl, rfl⟩⟩

theorem TdPost.after {w w1 w2 : World} {L : PL} {m m' : Mt} {v : Value} {ts : List Td} (k : Kep non w w1) (P : TdPost w1 L m m' v ts w2) : TdPost w L m m' v ts w2 :=
  P.behind k.none ⟨rfl, rfl, rfl⟩ (fun _ hb => .inl hb)

theorem back_nu (m : Mt) (h g s i : Nat) (o : Od) : (backM m h g s i o).nu = m.nu ∧ (backM m h g s i o).T = m.T ∧ (backM m h g s i o).G = m.G ∧ (backM m h g s i o).H = m.H := by
  unfold backM releaseM; split <;> exact ⟨rfl, rfl, rfl, rfl⟩

theorem HOk.less {m : Mt} {N : Int} (ok : m.Ok N) {h g s i : Nat} {o : Od} (q : at3 m h g s) (oo : o.Ok m h g s) {n : Int} (b1 : 1 ≤ n) (b2 : n ≤ 10000) : HOk ((releaseM m o.t.toNat h g s o).setBk h g s ((m.bk h g s).set i { o with q := n })) h g s { o with q := n } := by
  have O := HOk.of ok q oo
  have hpq := mul_le' (a := o.p) (b := o.q) (A := 100000) (B := 10000) (by have := oo.p; omega) oo.p.2 (by have := oo.q; omega) oo.q.2
  have oq := oo.q
  have hm := ok.mo o.t.toNat (by have := oo.t; omega)
  have hp := ok.pc o.t.toNat h g (by have := oo.t; omega) q.1 q.2.1
  have bN := ok.bN
  unfold releaseM
  split
  · refine ⟨O.T, O.h4, O.g4, O.s2, O.eh, O.eg, O.es, O.p, ⟨by show 0 ≤ n; omega, b2⟩, ?_, O.pc⟩
    show 0 ≤ (if o.t.toNat = o.t.toNat then m.mo o.t.toNat + o.p * o.q else _) ∧ (if o.t.toNat = o.t.toNat then m.mo o.t.toNat + o.p * o.q else _) ≤ _
    rw [if_pos rfl]
    omega
  · refine ⟨O.T, O.h4, O.g4, O.s2, O.eh, O.eg, O.es, O.p, ⟨by show 0 ≤ n; omega, b2⟩, O.mo, ?_⟩
    show 0 ≤ (if o.t.toNat = o.t.toNat ∧ h = h ∧ g = g then m.pc o.t.toNat h g + o.q else _) ∧ (if o.t.toNat = o.t.toNat ∧ h = h ∧ g = g then m.pc o.t.toNat h g + o.q else _) ≤ _
    rw [if_pos ⟨rfl, rfl, rfl⟩]
    omega

set_option maxRecDepth 100000 in
set_option maxHeartbeats 4000000 in
theorem change_any (w : World) (L : PL) (m : Mt) (N t id p q : Int) (R : PRep w L m) (I : m.Inv N) (hn : m.nu + 1 ≤ N) :
    Calls Try.prog 25 #[.pointer (some ⟨L.x, 0, none⟩), .int .i64 t, .int .i64 id, .int .i64 p, .int .i64 q] w fun e w' => ChPost w L m t id p q e w' := by
  have ok := I.ok
  have c2 := R.cA.cell
  have bT := ok.T8
  by_cases ht : okI m.T t
  · have i1 := hide (inB_okI ht)
    have HF := hide (find_any w L m N t id R ok)
    go_enter Try.func25, Try.ntmps25
    go_wp2_with (first | (go_at_call 31; refine (hasTrader_b _ _ _ _ _ _ bT c2).mono ?_; rw [i1.out]; rintro e w ⟨rfl, rfl⟩))
    refine HF.out.mono ?_
    rintro e W ⟨hB, (⟨rfl, hno⟩ | ⟨h, g, s, i, x, o, q3, hi, ho, et, eid, rfl⟩)⟩
    · have HP := hide (show ChPost w L m t id p q (.returned (.tuple #[.int .i64 0, .slice none 0 0, .int .i64 9])) W from ⟨0, _, 9, [], m, .inr (.inl ⟨ht, hno, rfl, rfl, rfl, rfl⟩), rfl, (PPost.same R (Kep.of_below hB)).td⟩)
      go_wp2
      exact bodyPost_ret (v := .tuple #[.int .i64 0, .slice none 0 0, .int .i64 9]) (by simp [results, Try.results25, go_sem]) rfl HP.out
    · have S : Spot m t id h g s i o := ⟨q3, ho, et, eid⟩
      have R1 := R.bel hB
      have hod : OdAt W x o := fun j v hv => R1.oc h g s i x o q3 hi ho j v hv
      have o0 := (hod 0 _ rfl).cell
      have o1 := (hod 1 _ rfl).cell
      have o2 := (hod 2 _ rfl).cell
      have o3 := (hod 3 _ rfl).cell
      have o4 := (hod 4 _ rfl).cell
      have o5 := (hod 5 _ rfl).cell
      have o6 := (hod 6 _ rfl).cell
      have o7 := (hod 7 _ rfl).cell
      have oo := ok.od h g s o q3.1 q3.2.1 q3.2.2 (List.mem_of_getElem? ho)
      have HN := hide (fun W' => fit_any W' (chOd o p q))
      simp only [Od.agg, chOd] at HN
      have HK := hide (Kep.of_below (S := non) hB)
      have HE := hide (show ∀ w1 n v c ts m', Kep non W w1 → Changes m t id p q n ts c m' → ∀ w2, TdPost w1 L m m' v ts w2 → ChPost w L m t id p q (.returned (.tuple #[.int .i64 n, v, .int .i64 c])) w2 from fun w1 n v c ts m' k C w2 P => ⟨n, v, c, ts, m', C, rfl, P.after (HK.out.trans k)⟩)
      have H5 := hide (show (chOd o p q).fit = false → Changes m t id p q 0 [] 5 m from fun hf => .inr (.inr ⟨ht, h, g, s, i, o, S, .inl ⟨hf, rfl, rfl, rfl, rfl⟩⟩))
      have HR1 := hide R1
      have Hod := hide hod
      clear et eid R1 hod R hB HF
      go_wp2_with fail
      refine (HN.out _).mono ?_
      rintro e w1 ⟨rfl, hB1⟩
      have hbx := (hB1.block W.heap.size (by simp)).trans (heap_alloc_new W _)
      have K1 : Kep non W w1 := ((Kep.refl non W).alloc _).trans (Kep.of_below hB1)
      have HK1 := hide K1
      replace o5 := K1.cell o5 (fun f => f)
      replace o6 := K1.cell o6 (fun f => f)
      have z0 := cell_of_row _ _ 0 _ _ _ hbx
      have z1 := cell_of_row _ _ 1 _ _ _ hbx
      have z2 := cell_of_row _ _ 2 _ _ _ hbx
      have z3 := cell_of_row _ _ 3 _ _ _ hbx
      have z4 := cell_of_row _ _ 4 _ _ _ hbx
      have z5 := cell_of_row _ _ 5 _ _ _ hbx
      have z6 := cell_of_row _ _ 6 _ _ _ hbx
      have z7 := cell_of_row _ _ 7 _ _ _ hbx
      clear hB1 K1 hbx HN o0 o1 o2 o3 o4 o7
      have HFt := hide (rfl : (chOd o p q).fit = ({ o with p := p, q := q, w := 0 } : Od).fit)
      cases hf : (chOd o p q).fit with
      | false =>
        have hf' : ({ o with p := p, q := q, w := 0 } : Od).fit = false := hf
        have HP := hide (HE.out w1 0 (.slice none 0 0) 5 [] m HK1.out (H5.out hf) w1 (PPost.same (HR1.out.later HK1.out) (Kep.refl _ _)).td)
        rw [hf']
        clear HE H5
        go_wp2
        exact bodyPost_ret (v := .tuple #[.int .i64 0, .slice none 0 0, .int .i64 5]) (by simp [results, Try.results25, go_sem]) rfl HP.out
      | true =>
        have hf' : ({ o with p := p, q := q, w := 0 } : Od).fit = true := hf
        rw [hf']
        obtain ⟨_, _, bp, bq⟩ := fit_bd hf
        replace bp : 1 ≤ p ∧ p ≤ 100000 := bp
        replace bq : 1 ≤ q ∧ q ≤ 10000 := bq
        by_cases hA : p = o.p ∧ q ≤ o.q
        · have HL := hide (lessen_any w1 L m (HR1.out.later HK1.out) S hi (HOk.of ok q3 oo) q (HOk.less ok q3 oo bq.1 bq.2))
          have HP := hide (fun w2 (P : PPost w1 L m (lessM m h g s i o q) w2) => HE.out w1 id (.slice none 0 0) 0 [] _ HK1.out (.inr (.inr ⟨ht, h, g, s, i, o, S, .inr (.inl ⟨hf, hA, rfl, rfl, rfl, rfl⟩)⟩)) w2 P.td)
          obtain ⟨rfl, hq⟩ := hA
          clear HE H5 I ok oo S
          go_wp2_with fail
          refine HL.out.mono ?_
          rintro e w2 ⟨rfl, P⟩
          have HP2 := hide (HP.out _ P)
          clear P HP HL
          go_wp2
          exact bodyPost_ret (v := .tuple #[.int .i64 id, .slice none 0 0, .int .i64 0]) (by simp [results, Try.results25, go_sem]) rfl HP2.out
        · have bn := back_nu m h g s i o
          have hB : p ≠ o.p ∨ (p = o.p ∧ o.q < q) := by
            by_cases ep : p = o.p
            · exact .inr ⟨ep, by have := fun f => hA ⟨ep, f⟩; omega⟩
            · exact .inl ep
          by_cases hE : placeE (backM m h g s i o) (chOd o p q) = 0
          · have HL := hide (replace_yes w1 L m N (HR1.out.later HK1.out) ok S hi (chOd o p q) (I.back q3 ho) (by rw [bn.1]; exact hn) hE)
            have HP := hide (fun w2 v (P : TdPost w1 L m (placeM (backM m h g s i o) (chOd o p q)) v (placeT (backM m h g s i o) (chOd o p q)) w2) => HE.out w1 (placeI (backM m h g s i o) (chOd o p q)) v 0 _ _ HK1.out (.inr (.inr ⟨ht, h, g, s, i, o, S, .inr (.inr (.inl ⟨hf, hA, hE, rfl, rfl, rfl, rfl⟩))⟩)) w2 P)
            clear HE H5 I ok oo S bn
            generalize placeM (backM m h g s i o) (chOd o p q) = m2 at *
            generalize placeT (backM m h g s i o) (chOd o p q) = ts at *
            generalize placeI (backM m h g s i o) (chOd o p q) = ni at *
            clear hE hA
            rcases hB with hne | ⟨rfl, hq⟩
            all_goals
              go_wp2_with fail
              refine HL.out.mono ?_
              rintro e w2 ⟨v, rfl, P⟩
              have HP2 := hide (HP.out _ _ P)
              clear P HP HL
              go_wp2
              exact bodyPost_ret (v := .tuple #[.int .i64 ni, v, .int .i64 0]) (by simp [results, Try.results25, go_sem]) rfl HP2.out
          · have O : HOk (backM m h g s i o) h g s o := HOk.of (I.back q3 ho).ok ⟨by rw [bn.2.2.2]; exact q3.1, by rw [bn.2.2.1]; exact q3.2.1, q3.2.2⟩ ⟨by rw [bn.1]; exact oo.id, by rw [bn.2.1]; exact oo.t, oo.h, oo.g, oo.s, oo.p, oo.q, oo.w⟩
            have HL := hide (replace_no w1 L m N (HR1.out.later HK1.out) ok S hi (chOd o p q) (I.back q3 ho).ok O (by rw [hold_back]; exact ok.less q3) hE)
            have HP := hide (fun w2 (P : PPost w1 L m (againM (backM m h g s i o) h g s o) w2) => HE.out w1 0 (.slice none 0 0) (placeE (backM m h g s i o) (chOd o p q)) [] _ HK1.out (.inr (.inr ⟨ht, h, g, s, i, o, S, .inr (.inr (.inr ⟨hf, hA, hE, rfl, rfl, rfl, rfl⟩))⟩)) w2 P.td)
            clear HE H5 I ok oo S bn O hE hA
            generalize placeE (backM m h g s i o) (chOd o p q) = en at *
            generalize againM (backM m h g s i o) h g s o = m2 at *
            rcases hB with hne | ⟨rfl, hq⟩
            all_goals
              go_wp2_with fail
              refine HL.out.mono ?_
              rintro e w2 ⟨rfl, P⟩
              have HP2 := hide (HP.out _ P)
              clear P HP HL
              go_wp2
              exact bodyPost_ret (v := .tuple #[.int .i64 0, .slice none 0 0, .int .i64 en]) (by simp [results, Try.results25, go_sem]) rfl HP2.out
  · have i1 := hide (inB_not ht)
    have HP := hide (show ChPost w L m t id p q (.returned (.tuple #[.int .i64 0, .slice none 0 0, .int .i64 2])) w from ⟨0, _, 2, [], m, .inl ⟨ht, rfl, rfl, rfl, rfl⟩, rfl, (PPost.same R (Kep.refl _ _)).td⟩)
    go_enter Try.func25, Try.ntmps25
    go_wp2_with (first | (go_at_call 31; refine (hasTrader_b _ _ _ _ _ _ bT c2).mono ?_; rw [i1.out]; rintro e w' ⟨rfl, rfl⟩))
    exact bodyPost_ret (v := .tuple #[.int .i64 0, .slice none 0 0, .int .i64 2]) (by simp [results, Try.results25, go_sem]) rfl HP.out
end

/- The plain market: all money and all pieces, through Cancel and a change. -/
section
theorem release_sum {m : Mt} {h g s : Nat} {o : Od} (q : at3 m h g s) (oo : o.Ok m h g s) : (releaseM m o.t.toNat h g s o).money = m.money + heldS m.T [o] ∧ ∀ g', (releaseM m o.t.toNat h g s o).stock g' = m.stock g' + if s = 1 ∧ g' = g then keptS m.T [o] else 0 := by
  have ot := oo.t
  have hz : o.t.toNat < m.T := by omega
  have h2 := heldS_one oo.t
  have k2 := keptS_one oo.t
  have s2 := q.2.2
  unfold releaseM
  by_cases e : s = 0
  · subst e
    rw [oo.s] at h2
    simp only [Int.natCast_zero, if_true] at h2
    rw [if_pos rfl]
    refine ⟨?_, fun g' => ?_⟩
    · rw [money_setMo _ _ hz]; omega
    · rw [stock_setMo]; simp
  · obtain rfl : s = 1 := by omega
    rw [oo.s] at h2
    simp only [Int.natCast_one, Int.one_ne_zero, if_false] at h2
    rw [if_neg (by decide)]
    refine ⟨?_, fun g' => ?_⟩
    · rw [money_setPc]; omega
    · rw [stock_setPc _ _ _ _ hz q.1]
      by_cases eg : g' = g
      · rw [if_pos eg, if_pos ⟨rfl, eg⟩]; omega
      · rw [if_neg eg, if_neg (fun f => eg f.2)]

theorem hold_sum {m : Mt} {h g s : Nat} {o : Od} (q : at3 m h g s) (oo : o.Ok m h g s) : (holdH m o.t.toNat h g s o).money = m.money - heldS m.T [o] ∧ ∀ g', (holdH m o.t.toNat h g s o).stock g' = m.stock g' - if s = 1 ∧ g' = g then keptS m.T [o] else 0 := by
  have ot := oo.t
  have hz : o.t.toNat < m.T := by omega
  have h2 := heldS_one oo.t
  have k2 := keptS_one oo.t
  have s2 := q.2.2
  unfold holdH
  by_cases e : s = 0
  · subst e
    rw [oo.s] at h2
    simp only [Int.natCast_zero, if_true] at h2
    rw [if_pos rfl]
    refine ⟨?_, fun g' => ?_⟩
    · rw [money_setMo _ _ hz]; omega
    · rw [stock_setMo]; simp
  · obtain rfl : s = 1 := by omega
    rw [oo.s] at h2
    simp only [Int.natCast_one, Int.one_ne_zero, if_false] at h2
    rw [if_neg (by decide)]
    refine ⟨?_, fun g' => ?_⟩
    · rw [money_setPc]; omega
    · rw [stock_setPc _ _ _ _ hz q.1]
      by_cases eg : g' = g
      · rw [if_pos eg, if_pos ⟨rfl, eg⟩]; omega
      · rw [if_neg eg, if_neg (fun f => eg f.2)]; omega

/-- all money and all pieces are as they were -/
def SameSums (m m' : Mt) : Prop := m'.money = m.money ∧ ∀ g, m'.stock g = m.stock g

theorem back_sums {m : Mt} {h g s i : Nat} {o : Od} (q : at3 m h g s) (oo : o.Ok m h g s) (hb : (m.bk h g s)[i]? = some o) : SameSums m (backM m h g s i o) := by
  unfold backM
  have q' : at3 (m.setBk h g s ((m.bk h g s).eraseIdx i)) h g s := q
  obtain ⟨r1, r2⟩ := release_sum (m := m.setBk h g s ((m.bk h g s).eraseIdx i)) q' (oo.of (Int.le_refl _) rfl)
  have h1 := (adds_heldS m.T).erase hb
  have k1 := (adds_keptS m.T).erase hb
  refine ⟨?_, fun g' => ?_⟩
  · rw [r1, money_setBk m q]
    show _ + _ + heldS m.T [o] = _
    omega
  · rw [r2, stock_setBk m q]
    show _ + _ + (if s = 1 ∧ g' = g then keptS m.T [o] else 0) = _
    by_cases e : s = 1 ∧ g' = g
    · rw [if_pos e, if_pos e]
      rw [e.1] at k1 ⊢
      omega
    · rw [if_neg e, if_neg e]; omega

theorem Adds.set {α : Type} {φ : List α → Int} (A : Adds φ) : ∀ {l : List α} {i : Nat} {x : α} (y : α), l[i]? = some x → φ (l.set i y) = φ l - φ [x] + φ [y]
  | [], i, x, y, h => by simp at h
  | z :: l, 0, x, y, h => by
    obtain rfl : z = x := by simpa using h
    rw [List.set_cons_zero, A.cons y l, A.cons z l]
    omega
  | z :: l, i + 1, x, y, h => by
    have ih := A.set (l := l) (i := i) (x := x) y (by simpa using h)
    rw [List.set_cons_succ, A.cons z (l.set i y), A.cons z l, ih]
    omega

theorem less_sums {m : Mt} {h g s i : Nat} {o : Od} (q : at3 m h g s) (oo : o.Ok m h g s) (hb : (m.bk h g s)[i]? = some o) {n : Int} (b1 : 1 ≤ n) (b2 : n ≤ 10000) : SameSums m (lessM m h g s i o n) := by
  unfold lessM
  obtain ⟨r1, r2⟩ := release_sum q oo
  obtain ⟨eb, eT, eG, eH⟩ := releaseM_bk m o.t.toNat h g s o
  have q1 : at3 (releaseM m o.t.toNat h g s o) h g s := ⟨by rw [eH]; exact q.1, by rw [eG]; exact q.2.1, q.2.2⟩
  have enu : (releaseM m o.t.toNat h g s o).nu = m.nu := by unfold releaseM; split <;> rfl
  have oo1 : ({ o with q := n } : Od).Ok ((releaseM m o.t.toNat h g s o).setBk h g s ((m.bk h g s).set i { o with q := n })) h g s :=
    ⟨⟨oo.id.1, by show o.id ≤ (releaseM m o.t.toNat h g s o).nu; rw [enu]; exact oo.id.2⟩, by show 0 ≤ o.t ∧ o.t < ((releaseM m o.t.toNat h g s o).T : Int); rw [eT]; exact oo.t, oo.h, oo.g, oo.s, oo.p, ⟨b1, b2⟩, oo.w⟩
  obtain ⟨t1, t2⟩ := hold_sum (m := (releaseM m o.t.toNat h g s o).setBk h g s ((m.bk h g s).set i { o with q := n })) (o := { o with q := n }) q1 oo1
  have h1 := (adds_heldS m.T).set ({ o with q := n } : Od) hb
  have k1 := (adds_keptS m.T).set ({ o with q := n } : Od) hb
  have eT' : ((releaseM m o.t.toNat h g s o).setBk h g s ((m.bk h g s).set i { o with q := n })).T = m.T := eT
  rw [eT'] at t1 t2
  refine ⟨?_, fun g' => ?_⟩
  · rw [t1, money_setBk _ q1, eT, eb, r1]
    omega
  · rw [t2, stock_setBk _ q1, eT, eb, r2]
    by_cases e : s = 1 ∧ g' = g
    · rw [if_pos e, if_pos e, if_pos e]
      rw [e.1] at k1 ⊢
      omega
    · rw [if_neg e, if_neg e, if_neg e]; omega

theorem again_sums {m : Mt} {h g s i : Nat} {o : Od} (q : at3 m h g s) (hb : (m.bk h g s)[i]? = some o) : SameSums m (againM (backM m h g s i o) h g s o) := by
  unfold againM
  rw [hold_back]
  have eb : (backM m h g s i o).bk h g s = (m.bk h g s).eraseIdx i := by
    unfold backM
    rw [(releaseM_bk _ _ _ _ _ _).1]
    simp [Mt.setBk]
  rw [eb]
  have h1 := (adds_heldS m.T).erase hb
  have k1 := (adds_keptS m.T).erase hb
  obtain ⟨k, hk⟩ : ∃ k, k = slot (ahAt ((m.bk h g s).eraseIdx i) s o) ((m.bk h g s).eraseIdx i).length := ⟨_, rfl⟩
  rw [← hk]
  have h2 := (adds_heldS m.T).put ((m.bk h g s).eraseIdx i) k o
  have k2 := (adds_keptS m.T).put ((m.bk h g s).eraseIdx i) k o
  have e2 : ∀ l l' : List Od, (m.setBk h g s l).setBk h g s l' = m.setBk h g s l' := fun l l' => by
    show ({ m with bk := _ } : Mt) = { m with bk := _ }
    congr 1
    funext a b c
    by_cases e : a = h ∧ b = g ∧ c = s <;> simp [Mt.setBk, e]
  rw [e2]
  refine ⟨?_, fun g' => ?_⟩
  · rw [money_setBk m q]
    omega
  · rw [stock_setBk m q]
    by_cases e : s = 1 ∧ g' = g
    · rw [if_pos e]
      rw [e.1] at k1 k2 ⊢
      omega
    · rw [if_neg e]; omega
end

end Go.Proofs.Ytcfoobhihhndjaa
