/- The program's market: numbersFit, cost, checkBook, House. -/
import Derived.Test.YtcfoobhihhndjaaB15
import Derived.Test.YtcfoobhihhndjaaB17
namespace Go.Proofs.Ytcfoobhihhndjaa

section
open Go.RowKit Go.Sort

def Od.agg (o : Od) : Value := .agg #[.int .i64 o.id, .int .i64 o.t, .int .i64 o.h, .int .i64 o.g, .int .i64 o.s, .int .i64 o.p, .int .i64 o.q, .int .i64 o.w]

def Od.fit (o : Od) : Bool := inR o.s 0 1 && inR o.w 0 3 && inR o.p 1 100000 && inR o.q 1 10000

set_option maxHeartbeats 4000000 in
set_option maxRecDepth 100000 in
theorem fit_any (w : World) (o : Od) :
    Calls Try.prog 53 #[o.agg] w fun e w' => e = .returned (.bool o.fit) ∧ Below w.heap.size w w' := by
  obtain ⟨r1, h1⟩ : ∃ r1, inR o.s 0 1 = r1 := ⟨_, rfl⟩
  obtain ⟨r2, h2⟩ : ∃ r2, inR o.w 0 3 = r2 := ⟨_, rfl⟩
  obtain ⟨r3, h3⟩ : ∃ r3, inR o.p 1 100000 = r3 := ⟨_, rfl⟩
  obtain ⟨r4, h4⟩ : ∃ r4, inR o.q 1 10000 = r4 := ⟨_, rfl⟩
  have e : Hid (o.fit = (r1 && r2 && r3 && r4)) := hide (by unfold Od.fit; rw [h1, h2, h3, h4])
  have H1 := hide h1
  have H2 := hide h2
  have H3 := hide h3
  have H4 := hide h4
  clear h1 h2 h3 h4
  unfold Od.agg
  generalize o.fit = r at *
  cases r1 with
  | false =>
    go_enter Try.func53, Try.ntmps53
    go_wp2_with (go_at_call 34; refine (within_b _ _ _ _).mono ?_; (first | rw [H1.out]); rintro e w' ⟨rfl, rfl⟩)
    go_ret
    exact ⟨by rw [e.out]; rfl, (Below.refl _ _).alloc (Nat.le_refl _) _⟩
  | true =>
    cases r2 with
    | false =>
      go_enter Try.func53, Try.ntmps53
      go_wp2_with (go_at_call 34; refine (within_b _ _ _ _).mono ?_; (first | rw [H1.out] | rw [H2.out]); rintro e w' ⟨rfl, rfl⟩)
      go_ret
      exact ⟨by rw [e.out]; rfl, (Below.refl _ _).alloc (Nat.le_refl _) _⟩
    | true =>
      cases r3 with
      | false =>
        go_enter Try.func53, Try.ntmps53
        go_wp2_with (go_at_call 34; refine (within_b _ _ _ _).mono ?_; (first | rw [H1.out] | rw [H2.out] | rw [H3.out]); rintro e w' ⟨rfl, rfl⟩)
        go_ret
        exact ⟨by rw [e.out]; rfl, (Below.refl _ _).alloc (Nat.le_refl _) _⟩
      | true =>
        cases r4 with
        | false =>
          go_enter Try.func53, Try.ntmps53
          go_wp2_with (go_at_call 34; refine (within_b _ _ _ _).mono ?_; (first | rw [H1.out] | rw [H2.out] | rw [H3.out] | rw [H4.out]); rintro e w' ⟨rfl, rfl⟩)
          go_ret
          exact ⟨by rw [e.out]; rfl, (Below.refl _ _).alloc (Nat.le_refl _) _⟩
        | true =>
          go_enter Try.func53, Try.ntmps53
          go_wp2_with (go_at_call 34; refine (within_b _ _ _ _).mono ?_; (first | rw [H1.out] | rw [H2.out] | rw [H3.out] | rw [H4.out]); rintro e w' ⟨rfl, rfl⟩)
          go_ret
          exact ⟨by rw [e.out]; rfl, (Below.refl _ _).alloc (Nat.le_refl _) _⟩

def Mt.costOf (m : Mt) (o : Od) : Int := o.p * o.q + m.fee o.h.toNat (o.p * o.q)

set_option maxHeartbeats 1000000 in
set_option maxRecDepth 100000 in
theorem cost_any (w : World) (L : PL) (m : Mt) (N : Int) (R : PRep w L m) (ok : m.Ok N) (o : Od) (h : Nat) (eh : o.h = h) (hh : h < m.H) (hp : 0 ≤ o.p ∧ o.p ≤ 100000) (hq : 0 ≤ o.q ∧ o.q ≤ 10000) (hf : 0 ≤ m.fee h (o.p * o.q) ∧ m.fee h (o.p * o.q) ≤ 1000000000) :
    Calls Try.prog 67 #[.pointer (some ⟨L.x, 0, none⟩), o.agg] w fun e w' => e = .returned (.int .i64 (m.costOf o)) ∧ Below w.heap.size w w' := by
  have hb := mul_le' (a := o.p) (b := o.q) (A := 100000) (B := 10000) hp.1 hp.2 hq.1 hq.2
  obtain ⟨hb0, hb1⟩ := hb
  have HF := hide (fun ob => fee_any _ L m N (R.later ((Kep.refl non w).alloc ob)) ok h (o.p * o.q) hh hb0 (by omega))
  have e : Hid (m.costOf o = o.p * o.q + m.fee h (o.p * o.q)) := hide (by unfold Mt.costOf; rw [eh]; rfl)
  have w1 : IntKind.i64.wrap (o.p * o.q) = o.p * o.q := by rw [IntKind.wrap_i64]; omega
  have w2 : IntKind.i64.wrap (o.p * o.q + m.fee h (o.p * o.q)) = o.p * o.q + m.fee h (o.p * o.q) := by rw [IntKind.wrap_i64]; omega
  unfold Od.agg
  rw [eh]
  generalize m.costOf o = r at *
  generalize m.fee h (o.p * o.q) = ff at *
  clear hf
  go_enter Try.func67, Try.ntmps67
  go_wp2_with (go_at_call 91; refine (HF.out _).mono ?_; rintro e w' ⟨rfl, rfl⟩)
  go_ret
  exact ⟨by rw [e.out]; rfl, (Below.refl _ _).alloc (Nat.le_refl _) _⟩

def bookE (m : Mt) (h g : Int) : Int := if okI m.H h then if okI m.G g then 0 else 4 else 3

theorem checkBook_any (w : World) (L : PL) (m : Mt) (N h g : Int) (R : PRep w L m) (ok : m.Ok N) :
    Calls Try.prog 50 #[.pointer (some ⟨L.x, 0, none⟩), .int .i64 h, .int .i64 g] w fun e w' => e = .returned (.int .i64 (bookE m h g)) ∧ w' = w := by
  have c0 := R.cG.cell
  have c1 := R.cR.cell
  have bG : m.G ≤ 8 := by have := ok.G4; omega
  have bH : m.H ≤ 8 := by have := ok.H4; omega
  go_enter Try.func50, Try.ntmps50
  go_wp2_with (first | (go_at_call 32; refine (hasHall_b _ _ _ _ _ _ bH c1).mono ?_; rintro e w' ⟨rfl, rfl⟩) | (go_at_call 33; refine (hasGood_b _ _ _ _ bG c0).mono ?_; rintro e w' ⟨rfl, rfl⟩))
  all_goals go_ret
  all_goals refine ⟨ret_int ?_, rfl⟩
  all_goals clear c0 c1 R
  all_goals unfold bookE
  all_goals (repeat' split)
  all_goals first | rfl | (exfalso; simp_all [inB]; done) | (exfalso; simp_all [inB]; omega)

theorem house_any (w : World) (L : PL) (m : Mt) (R : PRep w L m) :
    Calls Try.prog 18 #[.pointer (some ⟨L.x, 0, none⟩)] w fun e w' => e = .returned (.int .i64 m.ho) ∧ w' = w := by
  have c6 := R.cH.cell
  go_enter Try.func18, Try.ntmps18
  go_wp2
  go_ret
  exact ⟨rfl, rfl⟩
end

/- The plain market: an order that comes. -/
section
open Go.RowKit Go.Sort

/-- A trade: the taker's number, the maker's, the maker's trader, price, pieces, fee. -/
structure Td where
  tk : Int
  mr : Int
  wi : Int
  p : Int
  q : Int
  f : Int

def Td.cells (t : Td) : List Value := [.int .i64 t.tk, .int .i64 t.mr, .int .i64 t.wi, .int .i64 t.p, .int .i64 t.q, .int .i64 t.f]
def tdCells (l : List Td) : List Value := l.flatMap Td.cells

/-- what Stat tells, behind a trade -/
def noteM (m : Mt) (h g : Nat) (p q : Int) : Mt :=
  { m with la := fun a b => if a = h ∧ b = g then p else m.la a b, pi := fun a b => if a = h ∧ b = g then m.pi a b + q else m.pi a b, am := fun a b => if a = h ∧ b = g then m.am a b + p * q else m.am a b }

theorem tradeM_sell (m : Mt) {tb ts : Nat} (hne : tb ≠ ts) (h g s i : Nat) (n a f : Int) (z' : Od) :
    tradeM m tb ts ts h g s i 0 n a f z' = ({ (((m.setMo tb (m.mo tb)).setPc tb h g (m.pc tb h g + n)).setMo ts (m.mo ts + a)).setMo ts (m.mo ts + a - f) with ho := m.ho + f } : Mt).setBk h g s ((m.bk h g s).set i z') := by
  have e0 : m.mo tb + 0 = m.mo tb := Int.add_zero _
  have e3 : (m.setMo tb (m.mo tb)).mo ts = m.mo ts := by simp [Mt.setMo, Ne.symm hne]
  have e4 : (((m.setMo tb (m.mo tb)).setPc tb h g (m.pc tb h g + n)).setMo ts (m.mo ts + a)).mo ts = m.mo ts + a := by simp [Mt.setMo, Mt.setPc]
  show ({ ((((m.setMo tb (m.mo tb + 0)).setPc tb h g (m.pc tb h g + n)).setMo ts ((m.setMo tb (m.mo tb + 0)).mo ts + a)).setMo ts ((((m.setMo tb (m.mo tb + 0)).setPc tb h g (m.pc tb h g + n)).setMo ts ((m.setMo tb (m.mo tb + 0)).mo ts + a)).mo ts - f)) with ho := m.ho + f } : Mt).setBk h g s ((m.bk h g s).set i z') = _
  rw [e0, e3, e4]

/-- o came and z is the first of side s: what a trade of n pieces does to accounts, the house and z -/
def oneM (m : Mt) (h g s : Nat) (o z : Od) (n : Int) : Mt :=
  if s = 1 then tradeM m o.t.toNat z.t.toNat o.t.toNat h g 1 0 (o.p * n - z.p * n) n (z.p * n) (m.fee h (z.p * n)) { z with q := z.q - n }
  else tradeM m z.t.toNat o.t.toNat o.t.toNat h g 0 0 0 n (z.p * n) (m.fee h (z.p * n)) { z with q := z.q - n }

def oneT (m : Mt) (h : Nat) (o z : Od) (n : Int) : Td := ⟨o.id, z.id, z.t, z.p, n, m.fee h (z.p * n)⟩

/-- an order looks at those on side s, in order -/
def matchM (h g s : Nat) : List Od → Mt → Od → Mt × Od × List Td
  | [], m, o => (m, o, [])
  | z :: r, m, o =>
    if o.q ≤ 0 then (m, o, [])
    else if pfits o z = false then (m, o, [])
    else if z.t = o.t then matchM h g s r (releaseM (m.setBk h g s r) z.t.toNat h g s z) o
    else if z.q - min o.q z.q = 0 then
      let x := matchM h g s r ((noteM (oneM m h g s o z (min o.q z.q)) h g z.p (min o.q z.q)).setBk h g s r) { o with q := o.q - min o.q z.q }
      (x.1, x.2.1, oneT m h o z (min o.q z.q) :: x.2.2)
    else (noteM (oneM m h g s o z (min o.q z.q)) h g z.p (min o.q z.q), { o with q := o.q - min o.q z.q }, [oneT m h o z (min o.q z.q)])

/-- pieces of those that an order meets -/
def metL (o : Od) : List Od → Int
  | [] => 0
  | z :: r => (if z.t ≠ o.t ∧ pfits o z = true then z.q else 0) + metL o r
def otherS (s : Nat) : Nat := if s = 0 then 1 else 0
def Mt.met (m : Mt) (o : Od) : Int := metL o (m.bk o.h.toNat o.g.toNat (otherS o.s.toNat))

def placeE (m : Mt) (o : Od) : Int :=
  if ¬ okI m.T o.t then 2 else if ¬ okI m.H o.h then 3 else if ¬ okI m.G o.g then 4 else if o.fit = false then 5
  else if 60 ≤ m.all.length then 8
  else if o.s = 0 ∧ m.mo o.t.toNat < m.costOf o then 6
  else if o.s = 1 ∧ m.pc o.t.toNat o.h.toNat o.g.toNat < o.q then 7
  else if o.w = 3 ∧ 0 < m.met o then 10
  else if o.w = 2 ∧ m.met o < o.q then 11
  else 0

def holdM (m : Mt) (o : Od) : Mt :=
  if o.s = 0 then m.setMo o.t.toNat (m.mo o.t.toNat - o.p * o.q) else m.setPc o.t.toNat o.h.toNat o.g.toNat (m.pc o.t.toNat o.h.toNat o.g.toNat - o.q)

/-- an order comes to wait -/
def waitM (m : Mt) (o : Od) : Mt :=
  m.setBk o.h.toNat o.g.toNat o.s.toNat (putAt (m.bk o.h.toNat o.g.toNat o.s.toNat) (slot (ahAt (m.bk o.h.toNat o.g.toNat o.s.toNat) o.s.toNat o) (m.bk o.h.toNat o.g.toNat o.s.toNat).length) o)

def settleM (m : Mt) (o : Od) : Mt :=
  if 0 < o.q ∧ (o.w = 0 ∨ o.w = 3) then waitM m o else releaseM m o.t.toNat o.h.toNat o.g.toNat o.s.toNat o

def placed (m : Mt) (o : Od) : Mt × Od × List Td :=
  matchM o.h.toNat o.g.toNat (otherS o.s.toNat) (m.bk o.h.toNat o.g.toNat (otherS o.s.toNat)) (holdM { m with nu := m.nu + 1 } { o with id := m.nu + 1 }) { o with id := m.nu + 1 }

def placeM (m : Mt) (o : Od) : Mt := if placeE m o = 0 then settleM (placed m o).1 (placed m o).2.1 else m
def placeI (m : Mt) (o : Od) : Int := if placeE m o = 0 then m.nu + 1 else 0
def placeT (m : Mt) (o : Od) : List Td := if placeE m o = 0 then (placed m o).2.2 else []
end

/- The program's market: the states of a match. -/
section
open Go.RowKit Go.Sort

theorem infoTrade : (Try.prog.info? 53).map (fun i => (i.zero, i.size, i.bytes)) = some (some (.agg #[.int .i64 0, .int .i64 0, .int .i64 0, .int .i64 0, .int .i64 0, .int .i64 0]), 6, 48) := by kernel_rfl

theorem tdCells_append (a b : List Td) : tdCells (a ++ b) = tdCells a ++ tdCells b := by simp [tdCells]
theorem tdCells_length (a : List Td) : (tdCells a).length = a.length * 6 := by
  induction a with
  | nil => rfl
  | cons x a ih => simp only [tdCells, List.flatMap_cons, List.length_append] at ih ⊢; rw [ih]; simp [Td.cells]; omega
theorem Td.oneCell' (l : Td) : ∀ u, u ∈ l.cells → u.oneCell' = true := by simp [Td.cells, Value.oneCell']

/-- in the midst of a match -/
structure MS (w0 : World) (L0 : PL) (m0 : Mt) (xb : Nat) (L : PL) (m : Mt) (o : Od) (tv : Value) (ts : List Td) (W : World) : Prop where
  R : PRep W L m
  c : OdAt W xb o
  pl : Plain W xb
  lx : xb < w0.heap.size
  nx : ¬ L.S m xb
  xr : xb ≠ L.rb
  xq : xb ≠ L.bb
  rl : L.rb < w0.heap.size ∧ L.bb < w0.heap.size
  tr : W.ownsRow 0 53 6 tv ts.length (tdCells ts)
  tn : ∀ b, tv.ownBlock = some b → w0.heap.size ≤ b ∧ ¬ L.S m b
  ex : L.x = L0.x ∧ L.qb = L0.qb ∧ L.gb = L0.gb ∧ L.rb = L0.rb ∧ L.bb = L0.bb ∧ L.ab = L0.ab
  dm : m.T = m0.T ∧ m.G = m0.G ∧ m.H = m0.H
  k : Kep (fun b => L0.S m0 b ∨ b = xb) w0 W
  sub : ∀ b, L.S m b → L0.S m0 b ∨ w0.heap.size ≤ b

theorem MS.later {w0 : World} {L0 : PL} {m0 : Mt} {xb : Nat} {L : PL} {m : Mt} {o : Od} {tv : Value} {ts : List Td} {W W' : World} (S : MS w0 L0 m0 xb L m o tv ts W) (k : Kep non W W') : MS w0 L0 m0 xb L m o tv ts W' :=
  ⟨S.R.later k, fun j v hv => (S.c j v hv).kep k (fun f => f), S.pl.kep k (fun f => f), S.lx, S.nx, S.xr, S.xq, S.rl, ownsRow_kep S.tr k (fun _ _ f => f), S.tn, S.ex, S.dm, S.k.trans k.none, S.sub⟩

/-- the market and the order turned, no block of the layout did -/
theorem MS.same {w0 : World} {L0 : PL} {m0 : Mt} {xb : Nat} {L : PL} {m m' : Mt} {o o' : Od} {tv : Value} {ts : List Td} {W W' : World} (S : MS w0 L0 m0 xb L m o tv ts W) (k : Kep (fun b => L.S m b ∨ b = xb) W W') (R' : PRep W' L m') (c' : OdAt W' xb o') (pl' : Plain W' xb) (d : m'.T = m.T ∧ m'.G = m.G ∧ m'.H = m.H) : MS w0 L0 m0 xb L m' o' tv ts W' := by
  have hS : ∀ b, L.S m' b → L.S m b := fun b hb => S_eq d.2.2 d.2.1 hb
  refine ⟨R', c', pl', S.lx, fun f => S.nx (hS _ f), S.xr, S.xq, S.rl, ownsRow_kep S.tr k (fun b hb f => ?_), fun b hb => ⟨(S.tn b hb).1, fun f => (S.tn b hb).2 (hS _ f)⟩, S.ex, ⟨d.1.trans S.dm.1, d.2.1.trans S.dm.2.1, d.2.2.trans S.dm.2.2⟩, S.k.trans' k (fun i hi => ?_), fun b hb => S.sub b (hS _ hb)⟩
  · rcases f with f | f
    · exact (S.tn b hb).2 f
    · have := (S.tn b hb).1; have := S.lx; omega
  · rcases hi with f | f
    · rcases S.sub i f with q | q
      · exact .inl (.inl q)
      · exact .inr q
    · exact .inl (.inr f)

theorem sub_setQ {L : PL} {m m' : Mt} {n : Nat} {h g s : Nat} {v : Value} {ys : List Nat} (hG : m'.G = m.G) (hH : m'.H = m.H) (q : at3 m h g s) (hv : ∀ b, v.ownBlock = some b → (L.qv h g s).ownBlock = some b ∨ n ≤ b) (hys : ∀ i b : Nat, ys[i]? = some b → ∃ i' : Nat, (L.ob h g s)[i']? = some b) :
    ∀ b, (L.setQ h g s v ys).S m' b → L.S m b ∨ n ≤ b := by
  intro b hb
  have hb' : (L.setQ h g s v ys).S (m.setBk h g s []) b := S_eq (L := L.setQ h g s v ys) (m := m.setBk h g s []) hH hG hb
  obtain ⟨j, hj⟩ := hb'
  rcases F_setQ hj with ⟨e, _, _⟩ | ⟨_, e⟩ | ⟨i, _, e⟩
  · exact .inl ⟨j, e⟩
  · rcases hv b e with f | f
    · exact .inl ⟨.qv h g s, by simp only [PL.F, q, if_true]; exact f⟩
    · exact .inr f
  · obtain ⟨i', e'⟩ := hys i b e
    exact .inl ⟨.ob h g s i', by simp only [PL.F, q, if_true]; exact e'⟩

/-- a queue of the layout turned -/
theorem MS.turn {w0 : World} {L0 : PL} {m0 : Mt} {xb : Nat} {L : PL} {m m' : Mt} {o : Od} {tv : Value} {ts : List Td} {W W' : World} (S : MS w0 L0 m0 xb L m o tv ts W) {h g s : Nat} (q : at3 m h g s) (k : Kep (L.S m) W W') {v : Value} {ys : List Nat} (R' : PRep W' (L.setQ h g s v ys) m') (d : m'.T = m.T ∧ m'.G = m.G ∧ m'.H = m.H)
    (hv : ∀ b, v.ownBlock = some b → (L.qv h g s).ownBlock = some b ∨ W.heap.size ≤ b) (hys : ∀ i b : Nat, ys[i]? = some b → ∃ i' : Nat, (L.ob h g s)[i']? = some b) : MS w0 L0 m0 xb (L.setQ h g s v ys) m' o tv ts W' := by
  have hS := sub_setQ (n := W.heap.size) d.2.1 d.2.2 q hv hys
  have lW := S.k.size
  have ltv : ∀ b, tv.ownBlock = some b → b < W.heap.size := fun b hb => (S.tr.lt b hb).2
  refine ⟨R', fun j u hu => (S.c j u hu).kep k S.nx, S.pl.kep k S.nx, S.lx, fun f => ?_, S.xr, S.xq, S.rl, ownsRow_kep S.tr k (fun b hb => (S.tn b hb).2), fun b hb => ⟨(S.tn b hb).1, fun f => ?_⟩, S.ex, ⟨d.1.trans S.dm.1, d.2.1.trans S.dm.2.1, d.2.2.trans S.dm.2.2⟩, S.k.trans' k (fun i hi => ?_), fun b hb => ?_⟩
  · rcases hS _ f with f | f
    · exact S.nx f
    · have := S.lx; omega
  · rcases hS _ f with f | f
    · exact (S.tn b hb).2 f
    · have := ltv b hb; omega
  · rcases S.sub i hi with f | f
    · exact .inl (.inl f)
    · exact .inr f
  · rcases hS _ hb with f | f
    · exact S.sub b f
    · exact .inr (by omega)

/-- a trade is put at the end of the list -/
theorem MS.app {w0 : World} {L0 : PL} {m0 : Mt} {xb : Nat} {L : PL} {m : Mt} {o : Od} {tv tv' : Value} {ts ts' : List Td} {W W1 : World} (S : MS w0 L0 m0 xb L m o tv ts W) (hg : W.grownBy W1 tv.ownBlock) (tr : W1.ownsRow 0 53 6 tv' ts'.length (tdCells ts')) (hT1 : 1 ≤ m.T) (hG1 : 1 ≤ m.G)
    (hat : ∀ b, tv'.ownBlock = some b → tv.ownBlock = some b ∨ W.heap.size ≤ b) : MS w0 L0 m0 xb L m o tv' ts' W1 := by
  have k : Kep (fun b => tv.ownBlock = some b) W W1 := (Kep.refl _ W).grown hg (fun b hb => .inl hb)
  have lW := S.k.size
  have hl := S.R.lt hT1 hG1
  have nt : ∀ b, b < w0.heap.size → tv.ownBlock ≠ some b := fun b hb f => by have := (S.tn b f).1; omega
  refine ⟨S.R.keep k (fun b hb f => (S.tn b f).2 hb) (nt _ S.rl.1) (nt _ S.rl.2), fun j u hu => (S.c j u hu).kep k (nt _ S.lx), S.pl.kep k (nt _ S.lx), S.lx, S.nx, S.xr, S.xq, S.rl, tr, fun b hb => ?_, S.ex, S.dm, S.k.trans' k (fun i hi => .inr (S.tn i hi).1), S.sub⟩
  rcases hat b hb with f | f
  · exact S.tn b f
  · exact ⟨by omega, fun q => by have := hl b q; omega⟩

/-- what Stat tells turned -/
theorem PRep.note {W : World} {L : PL} {m : Mt} (R : PRep W L m) {h g : Nat} (hh : h < m.H) (hg : g < m.G) (p n : Int) :
    PRep (((W.setCell ⟨L.gb h, g * 5 + 2, none⟩ (.int .i64 p)).setCell ⟨L.gb h, g * 5 + 3, none⟩ (.int .i64 (m.pi h g + n))).setCell ⟨L.gb h, g * 5 + 4, none⟩ (.int .i64 (m.am h g + p * n))) L (noteM m h g p n) := by
  have k : Kep (fun b => b = L.gb h) W (((W.setCell ⟨L.gb h, g * 5 + 2, none⟩ (.int .i64 p)).setCell ⟨L.gb h, g * 5 + 3, none⟩ (.int .i64 (m.pi h g + n))).setCell ⟨L.gb h, g * 5 + 4, none⟩ (.int .i64 (m.am h g + p * n))) :=
    (((Kep.refl (fun b => b = L.gb h) W).setCell (p := ⟨L.gb h, g * 5 + 2, none⟩) (.inl rfl) _).setCell (p := ⟨L.gb h, g * 5 + 3, none⟩) (.inl rfl) _).setCell (p := ⟨L.gb h, g * 5 + 4, none⟩) (.inl rfl) _
  have ne : ∀ i j : Nat, i ≠ j → (⟨L.gb h, i, none⟩ : Addr) ≠ ⟨L.gb h, j, none⟩ := fun i j hj q => by injection q with _ q _; exact hj q
  have o : ∀ {W : World} {i : Nat} {x : Value} (j : Nat) (y : Value), Own W ⟨L.gb h, i, none⟩ x → i ≠ j → Own (W.setCell ⟨L.gb h, j, none⟩ y) ⟨L.gb h, i, none⟩ x := fun j y hx hij => hx.set_other (ne _ _ hij) rfl rfl y
  have o3 : ∀ {i : Nat} {x : Value}, Own W ⟨L.gb h, i, none⟩ x → i ≠ g * 5 + 2 → i ≠ g * 5 + 3 → i ≠ g * 5 + 4 → Own (((W.setCell ⟨L.gb h, g * 5 + 2, none⟩ (.int .i64 p)).setCell ⟨L.gb h, g * 5 + 3, none⟩ (.int .i64 (m.pi h g + n))).setCell ⟨L.gb h, g * 5 + 4, none⟩ (.int .i64 (m.am h g + p * n))) ⟨L.gb h, i, none⟩ x :=
    fun hx h1 h2 h3 => o _ _ (o _ _ (o _ _ hx h1) h2) h3
  refine R.setGb hh k _ _ _ (fun g' s' q => ?_) (fun g' hg' => ?_) (fun g' hg' => ?_) (fun g' hg' => ?_) (fun a b hab => ⟨if_neg (fun f => hab f.1), if_neg (fun f => hab f.1), if_neg (fun f => hab f.1)⟩)
  · have := q.2.2
    exact o3 (R.sd h g' s' q) (by omega) (by omega) (by omega)
  · by_cases e : g' = g
    · subst e
      rw [if_pos ⟨rfl, rfl⟩]
      exact o _ _ (o _ _ ((R.la h g' hh hg').set rfl _) (by omega)) (by omega)
    · rw [if_neg (fun f => e f.2)]
      exact o3 (R.la h g' hh hg') (by omega) (by omega) (by omega)
  · by_cases e : g' = g
    · subst e
      rw [if_pos ⟨rfl, rfl⟩]
      exact o _ _ ((o _ _ (R.pi h g' hh hg') (by omega)).set rfl _) (by omega)
    · rw [if_neg (fun f => e f.2)]
      exact o3 (R.pi h g' hh hg') (by omega) (by omega) (by omega)
  · by_cases e : g' = g
    · subst e
      rw [if_pos ⟨rfl, rfl⟩]
      exact (o _ _ (o _ _ (R.am h g' hh hg') (by omega)) (by omega)).set rfl _
    · rw [if_neg (fun f => e f.2)]
      exact o3 (R.am h g' hh hg') (by omega) (by omega) (by omega)
end

end Go.Proofs.Ytcfoobhihhndjaa
