/- The law's book: ints. -/
import Derived.Test.YtcbfmolebomkdaaLc
import Derived.Test.YtcbfmolebomkdaaI
namespace Go.Proofs.Ytcbfmolebomkdaa
open Go.RowKit

/-- at a plain region's list -/
theorem wpList_app {P : Program} {w : World} {ops : Array Oper} {rest : List Oper} {o : Oper} {a : Act} {Q : Exit → Act → World → Prop} (hgd : o.guard = none) (s x : Operand) (t : TypeId)
    (ho : o.op = .call { callee := .builtin .append, args := #[s, x], argTypes := #[t, t] })
    (e : TypeId) (i : TypeInfo) (z : Value) (size bytes : Nat) (ht : P.underlying t = some (.slice e)) (hi : P.info? e = some i) (hz : i.zero = some z)
    (hsize : i.size = size) (hby : i.bytes = bytes) (hzs : z.cells.size = size) (hsz : 0 < size) (hbs : bytes ≤ 1000)
    (l : Value) (n c : Nat) (hs : a.eval s = l) (hl : LRow w l size n c) (ad : Addr) (m cc : Nat) (news : List Value) (hx : a.eval x = .slice (some ad) m cc) (hn : news.length = m * size) (hc : ∀ j u, news[j]? = some u → w.cell? (ad.add j) = some u) (h1c : ∀ u ∈ news, u.oneCell' = true) (hm : 0 < m) (hnm : n + m ≤ 10000000)
    (h : ∀ g c' w', (l.ownBlock = some g ∨ w.heap.size ≤ g) → g < w'.heap.size → There w' g ((n + m) * size) → Ext l.ownBlock w w' → wpList P ops Q rest (a.put o.dst (.slice (some ⟨g, 0, none⟩) (n + m) c')) w') : wpList P ops Q (o :: rest) a w :=
  wpList_plain hgd fun K hK => by
    obtain ⟨g, c', w', hr, h2, h3, h4, h5⟩ := run_app (P := P) w t o.type e i z size bytes ht hi hz hsize hby hzs hsz hbs l n c hl ad m cc news hn hc h1c hm hnm
    unfold Oper.wp execOp
    simp only [ho, resolve, invoke, builtin, Sem.run_bind, Sem.run_pure, Result.andThen_ok, List.map_toArray, List.map_cons, List.map_nil, hs, hx, hr]
    exact hK _ _ (h g c' w' h2 h3 h4 h5)

theorem info112 : (Try.prog.info? 112).map (fun i => (i.zero, i.size, i.bytes)) = some (some (.slice none 0 0), 1, 24) := by kernel_rfl

/-- a list whose n elements (of z cells) are all the mark; it lies in a block of D -/
def MarkList (D : Nat → Prop) (w : World) (s : Value) (mk : List Value) (z : Nat) : Prop :=
  ∃ a n c, s = .slice a n c ∧ n ≤ 10000000 ∧ (n = 0 ∨ ∃ g, a = some ⟨g, 0, none⟩ ∧ D g ∧ ∀ j, j < n → ∀ k u, mk[k]? = some u → w.cell? ⟨g, j * z + k, none⟩ = some u)

/-- four such lists -/
def Marked (D : Nat → Prop) (w : World) (v : Value) (mk : List Value) (z : Nat) : Prop :=
  ∃ nb s0 s1 s2 s3, v = .slice (some ⟨nb, 0, none⟩) 4 4 ∧ D nb ∧ w.cell? ⟨nb, 0, none⟩ = some s0 ∧ w.cell? ⟨nb, 1, none⟩ = some s1 ∧ w.cell? ⟨nb, 2, none⟩ = some s2 ∧ w.cell? ⟨nb, 3, none⟩ = some s3 ∧
    MarkList D w s0 mk z ∧ MarkList D w s1 mk z ∧ MarkList D w s2 mk z ∧ MarkList D w s3 mk z

theorem MarkList.keep {D D' : Nat → Prop} {w w' : World} {s : Value} {mk : List Value} {z : Nat} {S : List Nat} (h : MarkList D w s mk z) (hz : 0 < mk.length) (k : Keeps S w w') (hS : ∀ b, D b → b ∉ S) (hD : ∀ b, b < w.heap.size → D b → D' b) : MarkList D' w' s mk z := by
  obtain ⟨a, n, c, h1, hb, h2⟩ := h
  refine ⟨a, n, c, h1, hb, ?_⟩
  rcases h2 with h2 | ⟨g, h2, h3, h4⟩
  · exact .inl h2
  · by_cases hn : n = 0
    · exact .inl hn
    · have hlt := World.block_lt_of_cell? w _ (h4 0 (by omega) 0 mk[0] (by simp))
      exact .inr ⟨g, h2, hD g hlt h3, fun j hj i u hu => k.cell (h4 j hj i u hu) (hS g h3)⟩

theorem Marked.keep {D D' : Nat → Prop} {w w' : World} {v : Value} {mk : List Value} {z : Nat} {S : List Nat} (h : Marked D w v mk z) (hz : 0 < mk.length) (k : Keeps S w w') (hS : ∀ b, D b → b ∉ S) (hD : ∀ b, b < w.heap.size → D b → D' b) : Marked D' w' v mk z := by
  obtain ⟨nb, s0, s1, s2, s3, h1, h2, c0, c1, c2, c3, m0, m1, m2, m3⟩ := h
  have hlt := World.block_lt_of_cell? w _ c0
  exact ⟨nb, s0, s1, s2, s3, h1, hD nb hlt h2, k.cell c0 (hS nb h2), k.cell c1 (hS nb h2), k.cell c2 (hS nb h2), k.cell c3 (hS nb h2), m0.keep hz k hS hD, m1.keep hz k hS hD, m2.keep hz k hS hD, m3.keep hz k hS hD⟩

/-- four lists, of n, n + 1, n + 2, n + 3 elements, before and while they are written over -/
structure Four (w0 : World) (own : Option Nat) (nb n z : Nat) (G C : Nat → Nat) (A : Nat → Option Addr) (et : TypeId) (wr : World) : Prop where
  ex : Keeps own.toList w0 wr
  row : wr.heap[nb]? = some (.cells #[.slice (A 0) n (C 0), .slice (A 1) (n + 1) (C 1), .slice (A 2) (n + 2) (C 2), .slice (A 3) (n + 3) (C 3)] et (0, 0))
  new : w0.heap.size ≤ nb
  adr : ∀ q, q < 4 → 0 < n + q → A q = some ⟨G q, 0, none⟩
  th : ∀ q, q < 4 → 0 < n + q → There wr (G q) ((n + q) * z)
  own : ∀ q, q < 4 → 0 < n + q → own = some (G q) ∨ w0.heap.size ≤ G q
  ne : ∀ q, q < 4 → 0 < n + q → G q ≠ nb

theorem Four.set {w0 : World} {ow : Option Nat} {nb n z : Nat} {G C : Nat → Nat} {A : Nat → Option Addr} {et : TypeId} {wr : World} (h : Four w0 ow nb n z G C A et wr) (q : Nat) (hq : q < 4) (hn : 0 < n + q) (o : Nat) (v : Value) :
    Four w0 ow nb n z G C A et (wr.setCell ⟨G q, o, none⟩ v) :=
  ⟨h.ex.setCell (by rcases h.own q hq hn with e | e; exact .inl (by simp [e]); exact .inr e) _, by rw [heap_setCell_other _ _ _ _ (Ne.symm (h.ne q hq hn))]; exact h.row, h.new, h.adr, fun i hi hi' => (h.th i hi hi').setCell _ _ _, h.own, h.ne⟩

/-- the cell of the q-th list -/
theorem Four.at {w0 : World} {ow : Option Nat} {nb n z : Nat} {G C : Nat → Nat} {A : Nat → Option Addr} {et : TypeId} {wr : World} (h : Four w0 ow nb n z G C A et wr) (q : Nat) (hq : q < 4) : wr.cell? ⟨nb, q, none⟩ = some (.slice (A q) (n + q) (C q)) := by
  rw [cell_of_row wr nb q _ _ _ h.row]
  rcases q with _ | _ | _ | _ | q
  all_goals first | rfl | omega

/-- all elements of the lists before k are the mark -/
def Done (n z : Nat) (G : Nat → Nat) (mk : List Value) (k : Nat) (wr : World) : Prop := ∀ q, q < k → ∀ j, j < n + q → ∀ i u, mk[i]? = some u → wr.cell? ⟨G q, j * z + i, none⟩ = some u

theorem Four.marked {w0 : World} {ow : Option Nat} {nb n z : Nat} {G C : Nat → Nat} {A : Nat → Option Addr} {et : TypeId} {wr : World} {mk : List Value} {D : Nat → Prop} (h : Four w0 ow nb n z G C A et wr) (d : Done n z G mk 4 wr) (hbn : n ≤ 9000000) (hD : ∀ b, ow = some b ∨ w0.heap.size ≤ b → D b) :
    Marked D wr (.slice (some ⟨nb, 0, none⟩) 4 4) mk z := by
  have ml : ∀ q, q < 4 → MarkList D wr (.slice (A q) (n + q) (C q)) mk z := fun q hq => by
    refine ⟨A q, n + q, C q, rfl, by omega, ?_⟩
    by_cases hn : n + q = 0
    · exact .inl hn
    · exact .inr ⟨G q, h.adr q hq (by omega), hD _ (h.own q hq (by omega)), fun j hj i u hu => d q hq j hj i u hu⟩
  exact ⟨nb, _, _, _, _, rfl, hD nb (.inr h.new), h.at 0 (by decide), h.at 1 (by decide), h.at 2 (by decide), h.at 3 (by decide), ml 0 (by decide), ml 1 (by decide), ml 2 (by decide), ml 3 (by decide)⟩

theorem cell_set_same {w : World} {p q : Addr} {v : Value} (h : w.cell? p = some v) : (w.setCell q v).cell? p = some v := by
  by_cases e : q = p
  · subst e
    exact World.cell?_setCell_same _ _ _ h
  · rw [World.cell?_setCell_other _ _ _ _ e]
    exact h

def pick4 {α : Type} (x0 x1 x2 x3 : α) : Nat → α
  | 0 => x0
  | 1 => x1
  | 2 => x2
  | _ => x3

/-- the four lists, just made -/
theorem four_made {w w1 w2 w3 : World} {a : Option Addr} {n c z g1 c1 g2 c2 g3 c3 : Nat} {et : TypeId} (hz : 0 < z) (hl : LRow w (.slice a n c) z n c)
    (e1 : Ext (Value.slice a n c).ownBlock w w1) (h1 : (Value.slice a n c).ownBlock = some g1 ∨ w.heap.size ≤ g1) (l1 : g1 < w1.heap.size) (t1 : There w1 g1 ((n + 1) * z))
    (e2 : Ext (Value.slice a n c).ownBlock w1 w2) (h2 : (Value.slice a n c).ownBlock = some g2 ∨ w.heap.size ≤ g2) (l2 : g2 < w2.heap.size) (t2 : There w2 g2 ((n + 2) * z))
    (e3 : Ext (Value.slice a n c).ownBlock w2 w3) (h3 : (Value.slice a n c).ownBlock = some g3 ∨ w.heap.size ≤ g3) (l3 : g3 < w3.heap.size) (t3 : There w3 g3 ((n + 3) * z)) :
    Four w (Value.slice a n c).ownBlock w3.heap.size n z (pick4 ((Value.slice a n c).ownBlock.getD 0) g1 g2 g3) (pick4 c c1 c2 c3) (pick4 a (some ⟨g1, 0, none⟩) (some ⟨g2, 0, none⟩) (some ⟨g3, 0, none⟩)) et
      (w3.alloc (.cells #[.slice a n c, .slice (some ⟨g1, 0, none⟩) (n + 1) c1, .slice (some ⟨g2, 0, none⟩) (n + 2) c2, .slice (some ⟨g3, 0, none⟩) (n + 3) c3] et)) := by
  have s1 := e1.kp.size
  have s2 := e2.kp.size
  have s3 := e3.kp.size
  have ex := ((e1.trans e2).trans e3)
  have exa := ex.alloc (.cells #[.slice a n c, .slice (some ⟨g1, 0, none⟩) (n + 1) c1, .slice (some ⟨g2, 0, none⟩) (n + 2) c2, .slice (some ⟨g3, 0, none⟩) (n + 3) c3] et)
  have al : ∀ {g k : Nat}, There w3 g k → There (w3.alloc (.cells #[.slice a n c, .slice (some ⟨g1, 0, none⟩) (n + 1) c1, .slice (some ⟨g2, 0, none⟩) (n + 2) c2, .slice (some ⟨g3, 0, none⟩) (n + 3) c3] et)) g k := fun h => h.keep (S := []) ((Keeps.refl _ _).alloc _) (by simp)
  have l0 : 0 < n → ∃ g, a = some ⟨g, 0, none⟩ ∧ There w g (n * z) := fun hn => by
    rcases hl with ⟨_, h, _⟩ | ⟨g, h, hc, ht⟩
    · omega
    · simp only [Value.slice.injEq, and_true] at h
      exact ⟨g, h, ht.less (Nat.mul_le_mul_right _ hc)⟩
  refine ⟨exa.kp, heap_alloc_new w3 _, by omega, fun q hq hn => ?_, fun q hq hn => ?_, fun q hq hn => ?_, fun q hq hn => ?_⟩
  · rcases q with _ | _ | _ | _ | q
    · obtain ⟨g, rfl, _⟩ := l0 (by omega)
      rfl
    · rfl
    · rfl
    · rfl
    · omega
  · rcases q with _ | _ | _ | _ | q
    · obtain ⟨g, rfl, h⟩ := l0 (by omega)
      exact exa.th _ _ h
    · exact al (e3.th _ _ (e2.th _ _ t1))
    · exact al (e3.th _ _ t2)
    · exact al t3
    · omega
  · rcases q with _ | _ | _ | _ | q
    · obtain ⟨g, rfl, _⟩ := l0 (by omega)
      exact .inl rfl
    · exact h1
    · exact h2
    · exact h3
    · omega
  · rcases q with _ | _ | _ | _ | q
    · obtain ⟨g, rfl, h⟩ := l0 (by omega)
      show g ≠ w3.heap.size
      obtain ⟨u, hu⟩ := (ex.th _ _ h).at 0 (Nat.mul_pos (by omega) hz)
      have : g < w3.heap.size := hu.lt
      omega
    · show g1 ≠ w3.heap.size; omega
    · show g2 ≠ w3.heap.size; omega
    · show g3 ≠ w3.heap.size; omega
    · omega

set_option maxRecDepth 100000 in
set_option maxHeartbeats 1000000 in
theorem ints_any (w : World) (p B0 : Nat) (ev : Value) (es : List Value) (l : Value) (n c : Nat) (hc5 : Own w ⟨p, 5, none⟩ ev) (hev : w.ownsRow B0 112 1 ev es.length es) (hb0 : B0 ≤ w.heap.size) (hl : LRow w l 1 n c) (hlp : l.ownBlock ≠ some p) (hle : ∀ b, l.ownBlock = some b → ev.ownBlock ≠ some b) (hep : ev.ownBlock ≠ some p)
    (hne : es.length ≤ 4000000) (hn : n ≤ 2000000) :
    Calls Try.prog 67 #[.pointer (some ⟨p, 1, none⟩), l] w fun e w' => e = .returned (.tuple #[]) ∧ ∃ ev' nv, Own w' ⟨p, 5, none⟩ ev' ∧ w'.ownsRow B0 112 1 ev' (es.length + 1) (es ++ [nv]) ∧ (ev'.ownBlock = ev.ownBlock ∨ ∃ b, ev'.ownBlock = some b ∧ w.heap.size ≤ b) ∧
      (∀ j v, j ≠ 5 → Own w ⟨p, j, none⟩ v → Own w' ⟨p, j, none⟩ v) ∧ Keeps (p :: (l.ownBlock.toList ++ ev.ownBlock.toList)) w w' ∧
      ∀ D : Nat → Prop, (∀ b, l.ownBlock = some b ∨ (w.heap.size ≤ b ∧ ev'.ownBlock ≠ some b) → D b) → Marked D w' nv [.int .i64 (-7070 - (es.length : Int))] 1 := by
  obtain ⟨a, rfl⟩ := hl.form
  obtain ⟨ea, ec, hev0⟩ : ∃ a c, ev = .slice a es.length c := by
    rcases hev.2 with ⟨h1, h2⟩ | ⟨_, _, _, h1, _⟩
    · exact ⟨none, 0, by rw [h1, h2]⟩
    · exact ⟨_, _, h1⟩
  subst hev0
  obtain ⟨i3, hi3, hz30, hz31, hz32⟩ := info_parts info3
  have c5 := hc5.cell
  go_enter Try.func67, Try.ntmps67
  go_wp2_with (at_builtin; (refine wpList_app rfl _ _ _ rfl 3 i3 _ 1 8 Try.underlying38 hi3 hz30 hz31 hz32 rfl (by omega) (by omega) _ n c rfl (hl.ext (row := none) (.of_keeps ((Keeps.refl _ _).alloc _))) ⟨w.heap.size, 0, none⟩ 1 1 [_] rfl rfl (by exact cell_one_new _ _ _) (by simp [Value.oneCell']) (by omega) (by omega) ?_))
  intro g1 c1 w1 hg1 hlt1 th1 ex1
  have e1 : Ext (Value.slice a n c).ownBlock w w1 := ((Ext.refl _ _).alloc _).trans ex1
  have hg1 : (Value.slice a n c).ownBlock = some g1 ∨ w.heap.size ≤ g1 := hg1.imp id (fun h => by omega)
  have z1 := e1.kp.size
  have L1 := hl.ext e1
  go_wp2_with (at_builtin; (refine wpList_app rfl _ _ _ rfl 3 i3 _ 1 8 Try.underlying38 hi3 hz30 hz31 hz32 rfl (by omega) (by omega) _ n c rfl (L1.ext (row := none) (.of_keeps ((Keeps.refl _ _).alloc _))) ⟨w1.heap.size, 0, none⟩ 2 2 [_, _] rfl rfl (by exact cell_two_new _ _ _ _) (by simp [Value.oneCell']) (by omega) (by omega) ?_))
  intro g2 c2 w2 hg2 hlt2 th2 ex2
  have e2 : Ext (Value.slice a n c).ownBlock w1 w2 := ((Ext.refl _ _).alloc _).trans ex2
  have hg2 : (Value.slice a n c).ownBlock = some g2 ∨ w.heap.size ≤ g2 := hg2.imp id (fun h => by omega)
  have z2 := e2.kp.size
  have L2 := L1.ext e2
  go_wp2_with (at_builtin; (refine wpList_app rfl _ _ _ rfl 3 i3 _ 1 8 Try.underlying38 hi3 hz30 hz31 hz32 rfl (by omega) (by omega) _ n c rfl (L2.ext (row := none) (.of_keeps ((Keeps.refl _ _).alloc _))) ⟨w2.heap.size, 0, none⟩ 3 3 [_, _, _] rfl rfl (by exact World.news_of_block (cs := #[_, _, _]) (heap_alloc_new w2 _)) (by simp [Value.oneCell']) (by omega) (by omega) ?_))
  intro g3 c3 w3 hg3 hlt3 th3 ex3
  have e3 : Ext (Value.slice a n c).ownBlock w2 w3 := ((Ext.refl _ _).alloc _).trans ex3
  have hg3 : (Value.slice a n c).ownBlock = some g3 ∨ w.heap.size ≤ g3 := hg3.imp id (fun h => by omega)
  have F0 := four_made (c1 := c1) (c2 := c2) (c3 := c3) (et := 38) (by omega) hl e1 hg1 hlt1 (by simpa using th1) e2 hg2 hlt2 (by simpa using th2) e3 hg3 hlt3 (by simpa using th3)
  clear ex1 ex2 ex3 hg1 hg2 hg3 th1 th2 th3 e1 e2 e3 L1 L2
  go_wp2
  generalize w3.alloc (.cells #[.slice a n c, .slice (some ⟨g1, 0, none⟩) (n + 1) c1, .slice (some ⟨g2, 0, none⟩) (n + 2) c2, .slice (some ⟨g3, 0, none⟩) (n + 3) c3] 38) = W4 at *
  generalize w3.heap.size = nb at *
  generalize pick4 ((Value.slice a n c).ownBlock.getD 0) g1 g2 g3 = G at *
  generalize pick4 c c1 c2 c3 = C at *
  generalize pick4 a (some ⟨g1, 0, none⟩) (some ⟨g2, 0, none⟩) (some ⟨g3, 0, none⟩) = A at *
  have HL := hide hl
  have H5 := hide hc5
  have HE := hide hev
  clear hl hc5 hev c5 hlt1 hlt2 hlt3 z1 z2
  go_loopw [6] (fun i wr => ∃ k : Nat, k ≤ 4 ∧ i = .int .i64 k ∧ Four w (Value.slice a n c).ownBlock nb n 1 G C A 38 wr ∧ Done n 1 G [.int .i64 (-7070 - (es.length : Int))] k wr) (fun i _ => 4 - (intOf i).toNat)
  case atStart => exact ⟨0, by omega, rfl, F0, fun q hq => by omega⟩
  case round =>
    clear F0
    obtain ⟨k, hk, rfl, F, hdone⟩ := hrel
    by_cases hlt : k < 4
    · go_wp2
      go_loopw [7] (fun i wr => ∃ j : Nat, j ≤ n + k ∧ i = .int .i64 j ∧ Four w (Value.slice a n c).ownBlock nb n 1 G C A 38 wr ∧ Done n 1 G [.int .i64 (-7070 - (es.length : Int))] k wr ∧ ∀ i, i < j → wr.cell? ⟨G k, i, none⟩ = some (.int .i64 (-7070 - (es.length : Int)))) (fun i _ => n + k - (intOf i).toNat)
      case atStart => exact ⟨0, by omega, rfl, F, hdone, fun i hi => by omega⟩
      case round =>
        clear F hdone
        obtain ⟨j, hj, rfl, F, hdone, hrow⟩ := hrel
        have cl := F.at k hlt
        have hk4 : (k : Int) < 4 := by omega
        by_cases hjk : j < n + k
        · have ha := F.adr k hlt (by omega)
          rw [ha] at cl
          obtain ⟨u, hu⟩ := (F.th k hlt (by omega)).at j (by omega)
          obtain ⟨cu, fu⟩ := hu
          have HF := hide F
          have HD := hide hdone
          have HR := hide hrow
          clear F hdone hrow ha
          go_wp2
          refine ⟨⟨j + 1, by omega, by go_num, HF.out.set k hlt (by omega) j _, ?_, ?_⟩, by simp [intOf]; omega⟩
          · intro q hq i hi e u' hu'
            obtain rfl : e = 0 := by rcases e with _ | e; rfl; simp at hu'
            obtain rfl : .int .i64 (-7070 - (es.length : Int)) = u' := by simpa using hu'
            exact cell_set_same (HD.out q hq i hi 0 _ rfl)
          · intro i hi
            by_cases e : i = j
            · subst e
              exact World.cell?_setCell_same _ _ _ cu
            · exact cell_set_same (HR.out i (by omega))
        · go_wp2
          refine ⟨⟨k + 1, by omega, by go_num, F, ?_⟩, by simp [intOf]; omega⟩
          intro q hq i hi e u' hu'
          by_cases eq : q = k
          · subst eq
            obtain rfl : e = 0 := by rcases e with _ | e; rfl; simp at hu'
            obtain rfl : .int .i64 (-7070 - (es.length : Int)) = u' := by simpa using hu'
            simpa using hrow i (by omega)
          · exact hdone q (by omega) i hi e u' hu'
    · have e4 : k = 4 := by omega
      subst e4
      obtain ⟨i0, hi0, hz0, hz1, hz2⟩ := info_parts info112
      have o5 := H5.out.keep F.ex (by simpa using hlp)
      have rev := ownsRow_keep HE.out F.ex (fun b hb hb' => hle b (by simpa using hb') hb)
      have sz := F.ex.size
      have c5 := o5.cell
      have HF := hide F
      have HD := hide hdone
      have HO := hide o5
      clear F hdone o5
      go_wp2_with (at_builtin; (refine wpList_append_lies _ rfl _ _ _ rfl B0 112 i0 _ 1 24 Try.underlying31 hi0 hz0 hz1 hz2 rfl (by omega) _ es.length es rfl (by exact rev.alloc _) ⟨wr.heap.size, 0, none⟩ 1 1 [_] rfl rfl (by exact cell_one_new _ _ _) (by simp [Value.oneCell']) (by omega) (by simp only [maxLen]; omega) (by omega) (by simp; omega) (wr.heap.size + 1) (by simp) ?_))
      intro gg cap w1 hown1 hgrow hat hlt1
      have k1 : Keeps (Value.slice ea es.length ec).ownBlock.toList wr w1 := ((Keeps.refl _ _).alloc _).grown hgrow (fun b hb => .inl (by simp [hb]))
      have o1 := HO.out.keep k1 (by simpa using hep)
      obtain ⟨z6, z7⟩ := o1
      go_wp2
      go_end0
      have pw : p < w.heap.size := H5.out.lt
      have evw : ∀ b, (Value.slice ea es.length ec).ownBlock = some b → b < w.heap.size := fun b hb => (HE.out.lt b hb).2
      have nep : (Value.slice (some ⟨gg, 0, none⟩) (es.length + 1) cap).ownBlock ≠ some p := fun h => by
        have hgp : gg = p := by simpa [Value.ownBlock] using h
        rcases hat with h' | h'
        · exact hep (by rw [h', hgp])
        · omega
      have kf : Keeps ([p] ++ (Value.slice ea es.length ec).ownBlock.toList) wr (w1.setCell ⟨p, 5, none⟩ (.slice (some ⟨gg, 0, none⟩) (es.length + 1) cap)) := (k1.mono (fun i hi => .inl (by simp only [List.mem_append]; exact .inr hi))).setCell (.inl (by simp)) _
      refine ⟨rfl, .slice (some ⟨gg, 0, none⟩) (es.length + 1) cap, .slice (some ⟨nb, 0, none⟩) 4 4, ⟨(HO.out.keep k1 (by simpa using hep)).set rfl _ |>.cell, ((HO.out.keep k1 (by simpa using hep)).set rfl _).free⟩, ownsRow_setCell_other hown1 nep _, ?_, ?_, ?_, ?_⟩
      · rcases hat with h | h
        · exact .inl h.symm
        · exact .inr ⟨gg, rfl, by omega⟩
      · intro j v hj hv
        refine ((hv.keep HF.out.ex (by simpa using hlp)).keep k1 (by simpa using hep)).set_other ?_ rfl rfl _
        intro q
        injection q with _ q _
        exact hj q
      · refine (HF.out.ex.mono (fun i hi => .inl (List.mem_cons_of_mem _ (List.mem_append_left _ hi)))).trans (kf.mono (fun i hi => .inl ?_))
        rcases List.mem_append.1 hi with hi | hi
        · obtain rfl : i = p := by simpa using hi
          exact List.mem_cons_self
        · exact List.mem_cons_of_mem _ (List.mem_append_right _ hi)
      · intro D hDD
        refine (HF.out.marked (D := fun b => (Value.slice a n c).ownBlock = some b ∨ w.heap.size ≤ b) HD.out (by omega) (fun b hb => hb)).keep (by simp) kf (fun b hb hb' => ?_) (fun b hlt hb => hDD b ?_)
        · simp only [List.mem_append, List.mem_singleton, Option.mem_toList] at hb'
          rcases hb' with rfl | hb'
          · rcases hb with hb | hb
            · exact hlp hb
            · omega
          · rcases hb with hb | hb
            · exact hle b hb hb'
            · have := evw b hb'; omega
        · rcases hb with hb | hb
          · exact .inl hb
          · refine .inr ⟨hb, fun h => ?_⟩
            have hgb : gg = b := by simpa [Value.ownBlock] using h
            rcases hat with h' | h'
            · have := evw gg h'; omega
            · omega

end Go.Proofs.Ytcbfmolebomkdaa
