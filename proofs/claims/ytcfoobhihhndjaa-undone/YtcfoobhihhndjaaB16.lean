/- The program's queue: Queue.Add. -/
import Derived.Test.YtcfoobhihhndjaaB12
import Derived.Test.YtcfoobhihhndjaaB15
namespace Go.Proofs.Ytcfoobhihhndjaa

section
open Go.RowKit Go.Sort

/-- where a thing comes to stand: behind the last one that it is not ahead of -/
def slot (ah : Nat → Bool) : Nat → Nat
  | 0 => 0
  | k + 1 => if ah k then slot ah k else k + 1

theorem slot_le (ah : Nat → Bool) : ∀ n, slot ah n ≤ n
  | 0 => Nat.le_refl _
  | k + 1 => by
    unfold slot
    split
    · exact Nat.le_succ_of_le (slot_le ah k)
    · exact Nat.le_refl _

def aheadF (s : Nat) : Nat := if s = 0 then 78 else 79

theorem ahead_any (s : Nat) (hs : s < 2) (w : World) (x y : Nat) (a b : Od) (ha : OdAt w x a) (hb : OdAt w y b) :
    Calls Try.prog (aheadF s) #[.pointer (some ⟨x, 0, none⟩), .pointer (some ⟨y, 0, none⟩)] w fun e w' => e = .returned (.bool (aheadB s a b)) ∧ ∃ n, w' = w.drewN n := by
  by_cases h : s = 0
  · subst h
    exact aheadBuy_any w x y a b ha hb
  · obtain rfl : s = 1 := by omega
    exact aheadSell_any w x y a b ha hb

theorem ahead_enters (s : Nat) (args : Array Value) (w : World) : (callFunc (aheadF s) args).run Try.prog w = .ok (.enter (aheadF s) args) w := by
  unfold aheadF
  split
  · exact enters_of Try.func78 (by kernel_rfl) rfl _ _
  · exact enters_of Try.func79 (by kernel_rfl) rfl _ _

theorem quiet_at {f : FuncId} {args : Array Value} {w : World} {m a : Nat} {v : Value} (h : Calls Try.prog f args (w.drewN (m + a)) fun e w' => e = .returned v ∧ ∃ k, w' = (w.drewN (m + a)).drewN k) : Calls Try.prog f args (w.drewN (m + a)) fun e w'' => e = .returned v ∧ ∃ n, w'' = w.drewN (m + n) :=
  h.mono fun _ _ ⟨he, k, hk⟩ => ⟨he, a + k, by rw [hk, World.drewN_drewN, Nat.add_assoc]⟩

/-- what Queue.Add leaves -/
def AddPost (w : World) (q : Nat) (v : Value) (n : Nat) (ys : List Nat) (e : Ending) (w' : World) : Prop :=
  e = .returned (.tuple #[]) ∧ ∃ W g cap, w' = W.setCell ⟨q, 1, none⟩ (.slice (some ⟨g, 0, none⟩) (n + 1) cap) ∧ W.ownsRow 0 90 1 (.slice (some ⟨g, 0, none⟩) (n + 1) cap) (n + 1) (ys.map optr) ∧ Kep (fun b => v.ownBlock = some b) w W ∧ (v.ownBlock = some g ∨ w.heap.size ≤ g)

/-- what slices.Insert leaves, where Queue.Add calls it -/
def AddIns (w : World) (q : Nat) (v : Value) (n : Nat) (ys : List Nat) (e : Ending) (W : World) : Prop :=
  ∃ g cap, e = .returned (.slice (some ⟨g, 0, none⟩) (n + 1) cap) ∧ W.ownsRow 0 90 1 (.slice (some ⟨g, 0, none⟩) (n + 1) cap) (n + 1) (ys.map optr) ∧ Kep (fun b => v.ownBlock = some b) w W ∧ (v.ownBlock = some g ∨ w.heap.size ≤ g) ∧ Own W ⟨q, 1, none⟩ v

set_option maxHeartbeats 4000000 in
set_option maxRecDepth 100000 in
theorem add_any (w : World) (q n c x g : Nat) (a : Option Addr) (zs : List Nat) (ah : Nat → Bool) (hq0 : w.cell? ⟨q, 0, none⟩ = some (.func (.func g) #[] #[])) (hq : Own w ⟨q, 1, none⟩ (.slice a n c)) (h60 : n ≤ 1000000) (hr : w.ownsRow 0 90 1 (.slice a n c) n (zs.map optr))
    (hbq : Value.ownBlock (.slice a n c) ≠ some q) (eg : ∀ args W, (callFunc g args).run Try.prog W = .ok (.enter g args) W)
    (hah : ∀ m (j z : Nat), zs[j]? = some z → Calls Try.prog g #[.pointer (some ⟨x, 0, none⟩), .pointer (some ⟨z, 0, none⟩)] (w.drewN m) fun e w' => e = .returned (.bool (ah j)) ∧ ∃ k, w' = (w.drewN m).drewN k) :
    Calls Try.prog 46 #[.pointer (some ⟨q, 0, none⟩), .pointer (some ⟨x, 0, none⟩)] w (AddPost w q (.slice a n c) n (putAt zs (slot ah n) x)) := by
  have hl : zs.length = n := by have := hr.1; simpa using this
  have HR := hide hr
  have HA := hide hah
  have HQ := hide hq
  have c1 := hq.cell
  have HC := hide (show ∀ j z, zs[j]? = some z → ∃ b, a = some ⟨b, 0, none⟩ ∧ w.cell? ⟨b, j, none⟩ = some (.pointer (some ⟨z, 0, none⟩)) from fun j z hj => by
    rcases hr.2 with ⟨e, e2⟩ | ⟨b, cap, cur, e, _⟩
    · have := (List.getElem?_eq_some_iff.1 hj).1; omega
    · injection e with e1 e2 e3
      subst e1 e3
      obtain ⟨cur, _, _, _, _, _, hc, _⟩ := owns_cell hr
      exact ⟨b, rfl, hc j _ (by rw [List.getElem?_map, hj]; rfl)⟩)
  have HI := hide (show ∀ m i, i ≤ n → Calls Try.prog 76 #[.slice a n c, .int .i64 i, .slice (some ⟨w.heap.size, 0, none⟩) 1 1] ((w.drewN m).alloc (.cells #[.pointer (some ⟨x, 0, none⟩)] 90)) (AddIns w q (.slice a n c) n (putAt zs i x)) from fun m i hi => by
    have k0 : Kep non w ((w.drewN m).alloc (.cells #[.pointer (some ⟨x, 0, none⟩)] 90)) := ((Kep.refl non w).drewN m).alloc _
    have hH : ((w.drewN m).alloc (.cells #[.pointer (some ⟨x, 0, none⟩)] 90)).heap[w.heap.size]? = some (.cells #[.pointer (some ⟨x, 0, none⟩)] 90 (0, 0)) := by
      show (w.heap.push _)[w.heap.size]? = _
      simp
    refine (insert_any _ a n c i w.heap.size x zs h60 (ownsRow_kep hr k0 (fun _ _ q => q)) (by simp only [World.cell?, hH]; rfl) ⟨_, _, hH⟩ (fun q => by have := (hr.lt _ q).2; omega) hi).mono ?_
    rintro e W ⟨g, cap, rfl, h1, h2, h3⟩
    have k1 : Kep (fun b => Value.ownBlock (.slice a n c) = some b) w W := (k0.none (S := fun b => Value.ownBlock (.slice a n c) = some b)).trans h2
    refine ⟨g, cap, rfl, h1, k1, h3.imp id (fun h => Nat.le_trans k0.size h), hq.kep k1 hbq⟩)
  clear hr hah hq
  go_enter Try.func46, Try.ntmps46
  go_wp2
  go_loopw [4] (fun i wr => ∃ j m : Nat, j ≤ n ∧ i = .int .i64 j ∧ slot ah j = slot ah n ∧ wr = w.drewN m) (fun i _ => (intOf i).toNat)
  case atStart => exact ⟨n, 0, Nat.le_refl _, rfl, rfl, rfl⟩
  case round =>
    obtain ⟨j, m, hj, rfl, hs, rfl⟩ := hrel
    have HS := hide hs
    clear hs
    by_cases h0 : j = 0
    · have h1 : decide ((0 : Int) < (j : Int)) = false := by simp [h0]
      have h2 : decide (0 < j) = false := by simp [h0]
      have HZ := hide h0
      clear h0
      go_wp2
      go_quiet (fail)
      go_wp2_with (go_at_call 76; refine (HI.out _ j hj).mono ?_; rintro e W ⟨gg, cap, rfl, hR, hK, hL, hO⟩; have c3 := hO.cell; have c4 := hO.free; have HX := hide (And.intro hR (And.intro hK hL)); clear hR hK hL hO c1)
      go_end0
      refine ⟨rfl, _, gg, cap, rfl, ?_, HX.out.2.1, HX.out.2.2⟩
      have e : slot ah n = j := by rw [← HS.out, HZ.out]; rfl
      rw [e]
      exact HX.out.1
    · obtain ⟨k, hk⟩ : ∃ k, j = k + 1 := ⟨j - 1, by omega⟩
      have h1 : decide ((0 : Int) < (j : Int)) = true := by simp; omega
      have h2 : decide (0 < j) = true := by simp; omega
      have hz : zs[k]? = some zs[k] := List.getElem?_eq_getElem (by omega)
      obtain ⟨b, rfl, cb⟩ := HC.out k _ hz
      have hcall := hide (fun m => HA.out m k _ hz)
      generalize zs[k]'(by omega) = z at *
      have ek : (j : Int) - 1 = (k : Int) := by omega
      have e5 : (k : Int) < (n : Int) := by omega
      have e6 : IntKind.i64.wrap (k : Int) = (k : Int) := by rw [IntKind.wrap_i64]; omega
      have e7 : k < n := by omega
      have HS2 := hide (show slot ah n = if ah k then slot ah k else j by rw [← HS.out, hk]; rfl)
      have HK := hide hk
      clear hk h0
      generalize ah k = bb at *
      go_wp2
      go_quiet (exact quiet_at (hcall.out _))
      cases bb with
      | true =>
        go_wp2
        refine ⟨⟨k, m + nq, by omega, rfl, ?_, rfl⟩, ?_⟩
        · have := HS2.out
          simpa using this.symm
        · have e1 : (intOf (.int .i64 (k : Int))).toNat = k := by simp only [intOf]; omega
          have e2 : (intOf (.int .i64 (j : Int))).toNat = j := by simp only [intOf]; omega
          have := HK.out
          omega
      | false =>
        go_wp2_with (go_at_call 76; refine (HI.out _ j hj).mono ?_; rintro e W ⟨gg, cap, rfl, hR, hK, hL, hO⟩; have c3 := hO.cell; have c4 := hO.free; have HX := hide (And.intro hR (And.intro hK hL)); clear hR hK hL hO c1)
        go_end0
        refine ⟨rfl, _, gg, cap, rfl, ?_, HX.out.2.1, HX.out.2.2⟩
        have e : slot ah n = j := HS2.out
        rw [e]
        exact HX.out.1
end

/- The program's market in memory: a queue that turned. -/
section
open Go.RowKit Go.Sort

def PL.setQ (L : PL) (h g s : Nat) (v : Value) (ys : List Nat) : PL := { L with qv := fun a b c => if a = h ∧ b = g ∧ c = s then v else L.qv a b c, ob := fun a b c => if a = h ∧ b = g ∧ c = s then ys else L.ob a b c }
def Mt.setBk (m : Mt) (h g s : Nat) (os : List Od) : Mt := { m with bk := fun a b c => if a = h ∧ b = g ∧ c = s then os else m.bk a b c }

theorem F_setQ {L : PL} {m : Mt} {h g s : Nat} {v : Value} {ys : List Nat} {os : List Od} {j : Jx} {b : Nat} (e : (L.setQ h g s v ys).F (m.setBk h g s os) j = some b) :
    (L.F m j = some b ∧ j ≠ .qv h g s ∧ ∀ i, j ≠ .ob h g s i) ∨ (j = .qv h g s ∧ v.ownBlock = some b) ∨ ∃ i, j = .ob h g s i ∧ ys[i]? = some b := by
  rcases j with _ | _ | _ | a | ⟨a, c, d⟩ | ⟨a, c, d⟩ | ⟨a, c, d, i⟩
  · exact .inl ⟨e, by simp, by simp⟩
  · exact .inl ⟨e, by simp, by simp⟩
  · exact .inl ⟨e, by simp, by simp⟩
  · exact .inl ⟨e, by simp, by simp⟩
  · exact .inl ⟨e, by simp, by simp⟩
  · by_cases q : a = h ∧ c = g ∧ d = s
    · obtain ⟨rfl, rfl, rfl⟩ := q
      refine .inr (.inl ⟨rfl, ?_⟩)
      simp only [PL.F] at e
      split at e
      · simpa [PL.setQ] using e
      · cases e
    · refine .inl ⟨?_, fun k => q (by simpa using k), by simp⟩
      simp only [PL.F] at e ⊢
      split at e
      · rename_i q3
        have q3' : at3 m a c d := q3
        rw [if_pos q3']
        simpa [PL.setQ, q] using e
      · cases e
  · by_cases q : a = h ∧ c = g ∧ d = s
    · obtain ⟨rfl, rfl, rfl⟩ := q
      refine .inr (.inr ⟨i, rfl, ?_⟩)
      simp only [PL.F] at e
      split at e
      · simpa [PL.setQ] using e
      · cases e
    · refine .inl ⟨?_, by simp, fun i' k => q (by have := k; simp at this; exact ⟨this.1, this.2.1, this.2.2.1⟩)⟩
      simp only [PL.F] at e ⊢
      split at e
      · rename_i q3
        have q3' : at3 m a c d := q3
        rw [if_pos q3']
        simpa [PL.setQ, q] using e
      · cases e

theorem PRep.setQ {w w' : World} {L : PL} {m : Mt} (R : PRep w L m) (hlt : ∀ b, L.S m b → b < w.heap.size) (hrb : L.rb < w.heap.size ∧ L.bb < w.heap.size) {h g s : Nat} (q0 : at3 m h g s) (k : Kep (fun b => b = L.qb h g s ∨ (L.qv h g s).ownBlock = some b) w w') {v : Value} {ys : List Nat} {os : List Od}
    (c1 : Own w' ⟨L.qb h g s, 1, none⟩ v) (c0 : w'.cell? ⟨L.qb h g s, 0, none⟩ = some (aheadFn s)) (hr : w'.ownsRow 0 90 1 v ys.length (ys.map optr)) (hl : ys.length = os.length)
    (hoc : ∀ (i b : Nat) (o : Od), ys[i]? = some b → os[i]? = some o → ∀ j u, o.cells[j]? = some u → Own w' ⟨b, j, none⟩ u) (hoz : ∀ i b : Nat, ys[i]? = some b → Plain w' b)
    (hv : ∀ b, v.ownBlock = some b → (L.qv h g s).ownBlock = some b ∨ w.heap.size ≤ b)
    (hys : ∀ i b : Nat, ys[i]? = some b → (∃ i' : Nat, (L.ob h g s)[i']? = some b) ∨ (¬ L.S m b ∧ b ≠ L.rb ∧ b ≠ L.bb ∧ v.ownBlock ≠ some b)) (nd : ∀ i j b : Nat, ys[i]? = some b → ys[j]? = some b → i = j) :
    PRep w' (L.setQ h g s v ys) (m.setBk h g s os) := by
  have eQv : L.F m (.qv h g s) = (L.qv h g s).ownBlock := by simp [PL.F, q0]
  have eQb : L.F m (.qb h g s) = some (L.qb h g s) := by simp [PL.F, q0]
  have eOb : ∀ i : Nat, L.F m (.ob h g s i) = (L.ob h g s)[i]? := fun i => by simp [PL.F, q0]
  have out : ∀ {j : Jx} {b : Nat}, L.F m j = some b → j ≠ .qb h g s → j ≠ .qv h g s → ¬ (b = L.qb h g s ∨ (L.qv h g s).ownBlock = some b) := fun {j b} hj n1 n2 q => by
    rcases q with q | q
    · exact n1 (R.inj j _ b hj (by rw [eQb, q]))
    · exact n2 (R.inj j _ b hj (by rw [eQv, q]))
  have a1 := out (j := .x) (b := L.x) rfl (by simp) (by simp)
  have a2 := out (j := .ab) (b := L.ab) rfl (by simp) (by simp)
  have a3 : ∀ i, i < m.H → ¬ (L.gb i = L.qb h g s ∨ (L.qv h g s).ownBlock = some (L.gb i)) := fun i hi => out (j := .gb i) (by simp [PL.F, hi]) (by simp) (by simp)
  have a4 : ∀ a b c, at3 m a b c → ¬ (a = h ∧ b = g ∧ c = s) → ¬ (L.qb a b c = L.qb h g s ∨ (L.qv h g s).ownBlock = some (L.qb a b c)) := fun a b c q n => out (j := .qb a b c) (by simp [PL.F, q]) (fun e => n (by simpa using e)) (by simp)
  have a5 : ∀ a b c x, at3 m a b c → ¬ (a = h ∧ b = g ∧ c = s) → (L.qv a b c).ownBlock = some x → ¬ (x = L.qb h g s ∨ (L.qv h g s).ownBlock = some x) := fun a b c x q n e => out (j := .qv a b c) (by simp [PL.F, q, e]) (by simp) (fun e => n (by simpa using e))
  have a6 : ∀ a b c n x : Nat, at3 m a b c → (L.ob a b c)[n]? = some x → ¬ (x = L.qb h g s ∨ (L.qv h g s).ownBlock = some x) := fun a b c n x q e => out (j := .ob a b c n) (by simp [PL.F, q, e]) (by simp) (by simp)
  have a7 : ¬ (L.rb = L.qb h g s ∨ (L.qv h g s).ownBlock = some L.rb) := fun q => R.nrb (q.elim (fun q => ⟨.qb h g s, by rw [eQb, q]⟩) (fun q => ⟨.qv h g s, by rw [eQv, q]⟩))
  have a8 : ¬ (L.bb = L.qb h g s ∨ (L.qv h g s).ownBlock = some L.bb) := fun q => R.nbb (q.elim (fun q => ⟨.qb h g s, by rw [eQb, q]⟩) (fun q => ⟨.qv h g s, by rw [eQv, q]⟩))
  have nS : ∀ b, b = L.rb ∨ b = L.bb → ¬ (L.setQ h g s v ys).S (m.setBk h g s os) b := by
    rintro b hb ⟨j, hj⟩
    have hbS : ¬ L.S m b := by rcases hb with rfl | rfl; exact R.nrb; exact R.nbb
    have hbl : b < w.heap.size := by rcases hb with rfl | rfl; exact hrb.1; exact hrb.2
    rcases F_setQ hj with ⟨e, _, _⟩ | ⟨_, e⟩ | ⟨i, _, e⟩
    · exact hbS ⟨j, e⟩
    · rcases hv b e with q | q
      · exact hbS ⟨.qv h g s, by rw [eQv, q]⟩
      · omega
    · rcases hys i b e with ⟨i', q⟩ | ⟨_, q1, q2, _⟩
      · exact hbS ⟨.ob h g s i', by rw [eOb, q]⟩
      · exact hb.elim q1 q2
  refine ⟨R.cG.kep k a1, R.cR.kep k a1, R.cA.kep k a1, R.cL.kep k a1, R.cB.kep k a1, R.cN.kep k a1, R.cH.kep k a1, R.cTm.kep k a1, fun i hi => k.cell (R.rt i hi) a7, fun t ht => (R.mo t ht).kep k a2, fun t i g ht hi hg => (R.pc t i g ht hi hg).kep k a2,
    ownsRow_kep R.ld k (fun b hb => out (j := .lv) hb (by simp) (by simp)), fun i hi => k.cell (R.bks i hi) a8, fun i g s q => (R.sd i g s q).kep k (a3 i q.1), fun i g hi hg => (R.la i g hi hg).kep k (a3 i hi), fun i g hi hg => (R.pi i g hi hg).kep k (a3 i hi), fun i g hi hg => (R.am i g hi hg).kep k (a3 i hi),
    fun a b c q => ?_, fun a b c q => ?_, fun a b c q => ?_, fun a b c q => ?_, fun a b c n x o q e1 e2 => ?_, fun a b c n x q e => ?_, fun i j b h1 h2 => ?_, nS _ (.inl rfl), nS _ (.inr rfl)⟩
  · by_cases e : a = h ∧ b = g ∧ c = s
    · obtain ⟨rfl, rfl, rfl⟩ := e
      exact c0
    · exact k.cell (R.q0 a b c q) (a4 a b c q e)
  · by_cases e : a = h ∧ b = g ∧ c = s
    · obtain ⟨rfl, rfl, rfl⟩ := e
      simpa [PL.setQ] using c1
    · simpa [PL.setQ, e] using (R.q1 a b c q).kep k (a4 a b c q e)
  · by_cases e : a = h ∧ b = g ∧ c = s
    · obtain ⟨rfl, rfl, rfl⟩ := e
      simpa [PL.setQ] using hr
    · simpa [PL.setQ, e] using ownsRow_kep (R.qr a b c q) k (fun x hx => a5 a b c x q e hx)
  · by_cases e : a = h ∧ b = g ∧ c = s
    · obtain ⟨rfl, rfl, rfl⟩ := e
      simpa [PL.setQ, Mt.setBk] using hl
    · simpa [PL.setQ, Mt.setBk, e] using R.ln a b c q
  · by_cases e : a = h ∧ b = g ∧ c = s
    · obtain ⟨rfl, rfl, rfl⟩ := e
      exact hoc n x o (by simpa [PL.setQ] using e1) (by simpa [Mt.setBk] using e2)
    · have e1' : (L.ob a b c)[n]? = some x := by simpa [PL.setQ, e] using e1
      exact fun j u e3 => (R.oc a b c n x o q e1' (by simpa [Mt.setBk, e] using e2) j u e3).kep k (a6 a b c n x q e1')
  · by_cases e' : a = h ∧ b = g ∧ c = s
    · obtain ⟨rfl, rfl, rfl⟩ := e'
      exact hoz n x (by simpa [PL.setQ] using e)
    · have e1' : (L.ob a b c)[n]? = some x := by simpa [PL.setQ, e'] using e
      exact (R.oz a b c n x q e1').kep k (a6 a b c n x q e1')
  · rcases F_setQ h1 with ⟨p1, n1, n1'⟩ | ⟨rfl, p1⟩ | ⟨i1, rfl, p1⟩
    · rcases F_setQ h2 with ⟨p2, _, _⟩ | ⟨rfl, p2⟩ | ⟨i2, rfl, p2⟩
      · exact R.inj i j b p1 p2
      · rcases hv b p2 with q | q
        · exact R.inj i _ b p1 (by rw [eQv, q])
        · have := hlt b ⟨i, p1⟩; omega
      · rcases hys i2 b p2 with ⟨i', q⟩ | ⟨q, _⟩
        · exact absurd (R.inj i _ b p1 (by rw [eOb, q])) (n1' i')
        · exact absurd ⟨i, p1⟩ q
    · rcases F_setQ h2 with ⟨p2, _, _⟩ | ⟨rfl, p2⟩ | ⟨i2, rfl, p2⟩
      · rcases hv b p1 with q | q
        · exact R.inj _ j b (by rw [eQv, q]) p2
        · have := hlt b ⟨j, p2⟩; omega
      · rfl
      · rcases hys i2 b p2 with ⟨i', q⟩ | ⟨_, _, _, q⟩
        · rcases hv b p1 with q1 | q1
          · have := R.inj (.qv h g s) (.ob h g s i') b (by rw [eQv, q1]) (by rw [eOb, q])
            cases this
          · have := hlt b ⟨.ob h g s i', by rw [eOb, q]⟩; omega
        · exact absurd p1 q
    · rcases F_setQ h2 with ⟨p2, _, n2'⟩ | ⟨rfl, p2⟩ | ⟨i2, rfl, p2⟩
      · rcases hys i1 b p1 with ⟨i', q⟩ | ⟨q, _⟩
        · exact absurd (R.inj j _ b p2 (by rw [eOb, q])) (n2' i')
        · exact absurd ⟨j, p2⟩ q
      · rcases hys i1 b p1 with ⟨i', q⟩ | ⟨_, _, _, q⟩
        · rcases hv b p2 with q1 | q1
          · have := R.inj (.qv h g s) (.ob h g s i') b (by rw [eQv, q1]) (by rw [eOb, q])
            cases this
          · have := hlt b ⟨.ob h g s i', by rw [eOb, q]⟩; omega
        · exact absurd p2 q
      · rw [nd i1 i2 b p1 p2]
end

end Go.Proofs.Ytcfoobhihhndjaa
