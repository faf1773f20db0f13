/- The program's sort of orders by their numbers: at rows that are owned. -/
import Derived.Test.YtcfoobhihhndjaaB01
import Derived.Test.YtcfoobhihhndjaaB03
import Derived.Test.YtcfoobhihhndjaaB10
import Derived.Test.YtcfoobhihhndjaaB17
import Derived.Test.YtcfoobhihhndjaaB19
import Derived.Test.YtcfoobhihhndjaaB30
import Derived.Test.YtcfoobhihhndjaaB35
namespace Go.Proofs.Ytcfoobhihhndjaa

section
open Go.Shelf Go.RowKit Go.Lib Go.Sort

def odCells (l : List Od) : List Value := l.flatMap Od.cells

theorem odCells_len (l : List Od) : (odCells l).length = l.length * 8 := by
  induction l with
  | nil => rfl
  | cons o l ih =>
    have : odCells (o :: l) = o.cells ++ odCells l := by simp [odCells]
    rw [this, List.length_append, ih]
    simp [Od.cells]
    omega

theorem odCells_get : ∀ (l : List Od) (j : Nat), (odCells l)[j]? = (l[j / 8]?).bind fun o => o.cells[j % 8]?
  | [], j => by simp [odCells]
  | o :: l, j => by
    have e : odCells (o :: l) = o.cells ++ odCells l := by simp [odCells]
    have hc : o.cells.length = 8 := rfl
    rw [e]
    by_cases h : j < 8
    · rw [List.getElem?_append_left (by omega), Nat.div_eq_of_lt h, Nat.mod_eq_of_lt h]
      rfl
    · obtain ⟨k, rfl⟩ : ∃ k, j = k + 8 := ⟨j - 8, by omega⟩
      rw [List.getElem?_append_right (by omega), hc, Nat.add_sub_cancel, odCells_get l k, Nat.add_div_right k (by omega), Nat.add_mod_right]
      rfl

theorem flat_eq [Inhabited Od] (d : Array Od) : (flatK Od.cells 8 d).toList = odCells d.toList := by
  apply List.ext_getElem?
  intro j
  by_cases h : j < d.size * 8
  · have h8 : j / 8 < d.size := by omega
    have h9 : j % 8 < 8 := by omega
    rw [odCells_get, Array.getElem?_toList, Array.getElem?_eq_getElem (by simpa using h), Array.getElem?_toList, Array.getElem?_eq_getElem h8, Option.bind_some]
    have := get_flatK Od.cells 8 d j h
    rw [getElem!_pos _ j (by simpa using h), getElem!_pos d _ h8] at this
    rw [this]
    have hc : d[j / 8].cells.length = 8 := rfl
    rw [getElem!_pos _ _ (by rw [hc]; exact h9)]
    exact (List.getElem?_eq_getElem (by rw [hc]; exact h9)).symm
  · rw [List.getElem?_eq_none (by simp; omega), List.getElem?_eq_none (by rw [odCells_len]; simp; omega)]

theorem sort_row {w : World} {B : Nat} {v : Value} {l : List Od} (hl : l.length ≤ 60) (hB : B ≤ w.heap.size) (h : w.ownsRow B 42 8 v l.length (odCells l)) :
    Calls Try.prog 39 #[v, .func (.func 40) #[] #[]] w fun e w' => e = .returned (.tuple #[]) ∧ ∃ l' : List Od, l'.Perm l ∧ l'.Pairwise (fun a b => a.id ≤ b.id) ∧ w'.ownsRow B 42 8 v l.length (odCells l') ∧ RowKit.Below B w w' := by
  haveI : Inhabited Od := ⟨⟨0, 0, 0, 0, 0, 0, 0, 0⟩⟩
  rcases h.2 with ⟨e0, e1⟩ | ⟨g, cap, cur, rfl, hb, hg, hn, hm, hs, ht⟩
  · have hl0 : l = [] := List.length_eq_zero_iff.1 e1
    rw [e0]
    refine (AnyF.slices_SortFunc_none Try.lsort none 0 _ w).mono fun e w' ⟨h1, h2⟩ => ⟨h1, l, .refl _, by rw [hl0]; exact .nil, ?_, ?_⟩
    · rw [h2]; rw [← e0]; exact h
    · rw [h2]; exact RowKit.Below.refl _ _
  · have hlt : g < w.heap.size := (Array.getElem?_eq_some_iff.1 hg).1
    have hH : HoldsK Od.cells 8 w g 0 l.toArray := by
      intro j hj
      have hj' : j < l.length * 8 := by simpa using hj
      refine ⟨?_, by simp [World.frozen?, hg]⟩
      have e1 : (cur.toList.take (l.length * 8))[j]? = (odCells l)[j]? := by rw [ht]
      rw [List.getElem?_take, if_pos hj', Array.getElem?_toList] at e1
      have e2 := congrArg (fun z : List Value => z[j]?) (flat_eq l.toArray)
      simp only [Array.getElem?_toList] at e2
      rw [Array.getElem?_eq_getElem hj] at e2
      simp only [World.cell?, hg, Nat.zero_add, Option.isSome_none, Bool.false_eq_true, if_false]
      rw [e1, getElem!_pos _ j hj]
      exact e2.symm
    have hc := sort_any g 0 cap l.toArray w hH hlt (by simp; omega)
    rw [List.size_toArray] at hc
    refine hc.mono ?_
    rintro e w' ⟨rfl, d', n, os, ⟨p1, _, p3⟩, hso, rfl⟩
    replace p1 : d'.size = l.length := p1.trans (by simp)
    have x1 : d'.extract 0 l.length = d' := by rw [← p1]; exact Array.extract_size
    have x2 : l.toArray.extract 0 l.length = l.toArray := by
      have : l.toArray.size = l.length := by simp
      rw [← this]; exact Array.extract_size
    rw [x1, x2] at p3
    have hcs : (flatK Od.cells 8 d').size ≤ cur.size := by rw [size_flatK, p1, hs]; exact Nat.mul_le_mul_right 8 hn
    refine ⟨rfl, d'.toList, p3, ?_, ⟨?_, .inr ⟨g, cap, putCells id 0 (flatK Od.cells 8 d') cur, rfl, hb, ?_, hn, hm, by simpa [putCells] using hs, ?_⟩⟩, ?_⟩
    · rw [List.pairwise_iff_getElem]
      intro i j hi hj hij
      have := hso i j (by omega) hij (by simpa [p1] using hj)
      rw [ltOd, getElem!_pos d' j (by simpa using hj), getElem!_pos d' i (by simpa using hi)] at this
      simp at this
      simpa using this
    · rw [odCells_len]; simp [p1]
    · unfold sortWorldK putRowK
      rw [heap_grow_old _ _ (by simpa using hlt)]
      simp [putRow, mapBlock, Sort.ahead, Array.getElem?_modify, hg, onCells]
    · rw [← flat_eq]
      apply List.ext_getElem?
      intro j
      rw [List.getElem?_take, Array.getElem?_toList, Array.getElem?_toList]
      by_cases hj : j < l.length * 8
      · have hjc : j < cur.size := by rw [size_flatK, p1] at hcs; omega
        have hjf : j < (flatK Od.cells 8 d').size := by rw [size_flatK, p1]; exact hj
        simp only [if_pos hj, putCells, Array.getElem?_mapIdx, Array.getElem?_eq_getElem hjc, Option.map_some]
        rw [if_pos ⟨by omega, by omega⟩, Array.getElem?_eq_getElem hjf, Nat.sub_zero, getElem!_pos _ j hjf]
        rfl
      · rw [if_neg hj, Array.getElem?_eq_none (by rw [size_flatK, p1]; omega)]
    · refine ⟨rfl, rfl, rfl, ?_, fun k hk => ?_⟩
      · unfold sortWorldK putRowK; simp [putRow, mapBlock, Sort.ahead]
      · unfold sortWorldK putRowK
        rw [heap_grow_old _ _ (by simp; omega)]
        simp [putRow, mapBlock, Sort.ahead, Array.getElem?_modify, show g ≠ k by omega]
end

/- The program's market: find, Cancel. -/
section
open Go.RowKit Go.Sort

theorem upG_leneq {α β : Type} {f : Nat → Nat → List α} {k : Nat → Nat → List β} : ∀ G, (∀ g s, g < G → s < 2 → (f g s).length = (k g s).length) → (upG f G).length = (upG k G).length
  | 0, _ => rfl
  | G + 1, h => by simp only [upG, two, List.length_append, upG_leneq G fun g s a b => h g s (by omega) b, h G 0 (by omega) (by omega), h G 1 (by omega) (by omega)]
theorem upH_leneq {α β : Type} {G : Nat} {f : Nat → Nat → Nat → List α} {k : Nat → Nat → Nat → List β} : ∀ H, (∀ h g s, h < H → g < G → s < 2 → (f h g s).length = (k h g s).length) → (upH G f H).length = (upH G k H).length
  | 0, _ => rfl
  | H + 1, h => by simp only [upH, List.length_append, upH_leneq H fun x g s a b c => h x g s (by omega) b c, upG_leneq G fun g s a b => h H g s (by omega) a b]

/-- where an order of all stands -/
theorem upG_at {α β : Type} {f : Nat → Nat → List α} {k : Nat → Nat → List β} : ∀ {G : Nat}, (∀ g s, g < G → s < 2 → (f g s).length = (k g s).length) → ∀ {n : Nat} {x : α} {y : β}, (upG f G)[n]? = some x → (upG k G)[n]? = some y → ∃ g s i : Nat, g < G ∧ s < 2 ∧ (f g s)[i]? = some x ∧ (k g s)[i]? = some y
  | 0, _, n, x, y, h, _ => by simp [upG] at h
  | G + 1, hl, n, x, y, h, h' => by
    have e : (upG f G).length = (upG k G).length := upG_leneq G fun g s a b => hl g s (by omega) b
    simp only [upG, two] at h h'
    by_cases c : n < (upG f G).length
    · rw [List.getElem?_append_left c] at h
      rw [List.getElem?_append_left (by omega)] at h'
      obtain ⟨g, s, i, a, b, c, d⟩ := upG_at (fun g s a b => hl g s (by omega) b) h h'
      exact ⟨g, s, i, by omega, b, c, d⟩
    · rw [List.getElem?_append_right (by omega)] at h
      rw [List.getElem?_append_right (by omega), ← e] at h'
      have e0 := hl G 0 (by omega) (by omega)
      by_cases c2 : n - (upG f G).length < (f G 0).length
      · rw [List.getElem?_append_left c2] at h
        rw [List.getElem?_append_left (by omega)] at h'
        exact ⟨G, 0, _, by omega, by omega, h, h'⟩
      · rw [List.getElem?_append_right (by omega)] at h
        rw [List.getElem?_append_right (by omega), ← e0] at h'
        exact ⟨G, 1, _, by omega, by omega, h, h'⟩
theorem upH_at {α β : Type} {G : Nat} {f : Nat → Nat → Nat → List α} {k : Nat → Nat → Nat → List β} : ∀ {H : Nat}, (∀ h g s, h < H → g < G → s < 2 → (f h g s).length = (k h g s).length) → ∀ {n : Nat} {x : α} {y : β}, (upH G f H)[n]? = some x → (upH G k H)[n]? = some y → ∃ h g s i : Nat, h < H ∧ g < G ∧ s < 2 ∧ (f h g s)[i]? = some x ∧ (k h g s)[i]? = some y
  | 0, _, n, x, y, h, _ => by simp [upH] at h
  | H + 1, hl, n, x, y, h, h' => by
    have e : (upH G f H).length = (upH G k H).length := upH_leneq H fun h g s a b c => hl h g s (by omega) b c
    simp only [upH] at h h'
    by_cases c : n < (upH G f H).length
    · rw [List.getElem?_append_left c] at h
      rw [List.getElem?_append_left (by omega)] at h'
      obtain ⟨h, g, s, i, a, b, c, d⟩ := upH_at (fun h g s a b c => hl h g s (by omega) b c) h h'
      exact ⟨h, g, s, i, by omega, b, c, d⟩
    · rw [List.getElem?_append_right (by omega)] at h
      rw [List.getElem?_append_right (by omega), ← e] at h'
      obtain ⟨g, s, i, a, b, c, d⟩ := upG_at (fun g s a b => hl H g s (by omega) a b) h h'
      exact ⟨H, g, s, i, by omega, a, b, c, d⟩

/-- the order of a trader with a number, or none -/
def FindPost (w : World) (L : PL) (m : Mt) (t id : Int) (e : Ending) (w' : World) : Prop :=
  Below w.heap.size w w' ∧ ((e = .returned (.pointer none) ∧ ∀ o : Od, o ∈ m.all → ¬ (o.t = t ∧ o.id = id)) ∨ ∃ (h g s i x : Nat) (o : Od), at3 m h g s ∧ (L.ob h g s)[i]? = some x ∧ (m.bk h g s)[i]? = some o ∧ o.t = t ∧ o.id = id ∧ e = .returned (.pointer (some ⟨x, 0, none⟩)))

set_option maxRecDepth 100000 in
set_option maxHeartbeats 4000000 in
theorem find_any (w : World) (L : PL) (m : Mt) (N t id : Int) (R : PRep w L m) (ok : m.Ok N) :
    Calls Try.prog 52 #[.pointer (some ⟨L.x, 0, none⟩), .int .i64 t, .int .i64 id] w fun e w' => FindPost w L m t id e w' := by
  have hlen := R.len_all
  have h60 := ok.a60
  have HW := hide (waiting_any w L m N R ok (by omega))
  have HF := hide (forall2_get R.odall).2
  have HA := hide (show ∀ (n x : Nat) (o : Od), (L.all m)[n]? = some x → m.all[n]? = some o → ∃ h g s i : Nat, h < m.H ∧ g < m.G ∧ s < 2 ∧ (L.ob h g s)[i]? = some x ∧ (m.bk h g s)[i]? = some o from fun n x o a b => upH_at (fun h g s p q r => (forall2_get (R.one ⟨p, q, r⟩)).1) a b)
  clear R ok
  go_enter Try.func52, Try.ntmps52
  go_wp2_with fail
  refine HW.out.mono ?_
  rintro e W ⟨v, rfl, hown, hB⟩
  obtain ⟨ra, rc, rfl⟩ := row_form hown
  have HRow := hide hown
  clear hown HW
  go_wp2
  go_loopw [12] (fun i wr => ∃ k : Nat, k ≤ m.all.length ∧ i = .int .i64 k ∧ wr = W ∧ ∀ o : Od, o ∈ m.all.take k → ¬ (o.t = t ∧ o.id = id)) (fun i _ => m.all.length - (intOf i).toNat)
  case atStart => exact ⟨0, by omega, rfl, rfl, fun o h => by simp at h⟩
  case round =>
    obtain ⟨k, hk, rfl, rfl, hn⟩ := hrel
    by_cases hlt : k < m.all.length
    · have hb : k < (L.all m).length := by omega
      have hlt' : (k : Int) < ((L.all m).length : Int) := by omega
      obtain ⟨pb, pc, hpv, _, _⟩ := HRow.out.form (by omega)
      simp only [Value.slice.injEq, true_and] at hpv
      obtain ⟨rfl, rfl⟩ := hpv
      have c0 : wr.cell? ⟨pb, k, none⟩ = some (.pointer (some ⟨(L.all m)[k], 0, none⟩)) := by
        rw [HRow.out.cellAt k (by omega)]
        simp [hb, optr]
      have od : OdAt wr (L.all m)[k] m.all[k] := (HF.out k _ _ (by simp [hb]) (by simp [hlt])).below hB
      have o0 := (od 0 _ rfl).cell
      have o1 := (od 1 _ rfl).cell
      have HAk := hide (HA.out k _ _ (List.getElem?_eq_getElem hb) (List.getElem?_eq_getElem hlt))
      have HN := hide (show ¬ (m.all[k].t = t ∧ m.all[k].id = id) → ∀ o : Od, o ∈ m.all.take (k + 1) → ¬ (o.t = t ∧ o.id = id) from fun hh o ho => by
        rw [List.take_add_one, List.getElem?_eq_getElem hlt, List.mem_append] at ho
        rcases ho with ho | ho
        · exact hn o ho
        · simp only [Option.toList, List.mem_singleton] at ho
          rw [ho]; exact hh)
      generalize m.all[k] = o at *
      generalize (L.all m)[k] = x at *
      have HB := hide hB
      clear od hn HA HF hB
      by_cases e1 : o.t = t
      · by_cases e2 : o.id = id
        · have HP : Hid (∀ e, e = .returned (.pointer (some ⟨x, 0, none⟩)) → FindPost w L m t id e wr) := hide fun e he => by
            obtain ⟨h, g, s, i, a, b, c, d, f⟩ := HAk.out
            exact ⟨HB.out, .inr ⟨h, g, s, i, x, o, ⟨a, b, c⟩, d, f, e1, e2, he⟩⟩
          go_wp2
          go_ret
          exact HP.out _ rfl
        · have HP := hide (HN.out (fun q => e2 q.2))
          go_wp2
          exact ⟨⟨k + 1, by omega, by go_num, trivial, HP.out⟩, by simp [intOf]; omega⟩
      · have HP := hide (HN.out (fun q => e1 q.1))
        go_wp2
        exact ⟨⟨k + 1, by omega, by go_num, trivial, HP.out⟩, by simp [intOf]; omega⟩
    · have HP : Hid (∀ e, e = .returned (.pointer none) → FindPost w L m t id e wr) := hide fun e he => ⟨hB, .inl ⟨he, by rwa [List.take_of_length_le (by omega)] at hn⟩⟩
      clear hn
      go_wp2
      go_ret
      exact HP.out _ rfl
end

/- The program's market: Cancel. -/
section
open Go.RowKit Go.Sort

theorem TbPost.pp {w w' : World} {L : PL} {m m' : Mt} {h g s : Nat} {ys : List Nat} (q : at3 m h g s) (hG : m'.G = m.G) (hH : m'.H = m.H) (hys : ∀ i b : Nat, ys[i]? = some b → ∃ i' : Nat, (L.ob h g s)[i']? = some b) (P : TbPost w L h g s ys m' w') : PPost w L m m' w' := by
  obtain ⟨v, R', hv⟩ := P.rep
  refine ⟨P.kp.mono fun b f => ?_, L.setQ h g s v ys, ⟨rfl, rfl, rfl⟩, sub_setQ hG hH q hv hys, R'⟩
  rcases f with f | f | f
  · exact .inl ⟨.ab, congrArg some f.symm⟩
  · exact .inl ⟨.qb h g s, by simp only [PL.F, q, if_true]; exact congrArg some f.symm⟩
  · exact .inl ⟨.qv h g s, by simp only [PL.F, q, if_true]; exact f⟩

/-- a market behind the taking back of an order -/
def backM (m : Mt) (h g s i : Nat) (o : Od) : Mt := releaseM (m.setBk h g s ((m.bk h g s).eraseIdx i)) o.t.toNat h g s o

/-- where an order of a trader with a number stands -/
structure Spot (m : Mt) (t id : Int) (h g s i : Nat) (o : Od) : Prop where
  q : at3 m h g s
  ho : (m.bk h g s)[i]? = some o
  t : o.t = t
  id : o.id = id

def NoSpot (m : Mt) (t id : Int) : Prop := ∀ o : Od, o ∈ m.all → ¬ (o.t = t ∧ o.id = id)

/-- Cancel, its answer and the market behind it -/
def Cancels (m : Mt) (t id : Int) (c : Int) (m' : Mt) : Prop :=
  (¬ okI m.T t ∧ c = 2 ∧ m' = m) ∨ (okI m.T t ∧ NoSpot m t id ∧ c = 9 ∧ m' = m) ∨ (okI m.T t ∧ ∃ h g s i o, Spot m t id h g s i o ∧ c = 0 ∧ m' = backM m h g s i o)

def CanPost (w : World) (L : PL) (m : Mt) (t id : Int) (e : Ending) (w' : World) : Prop := ∃ c m', Cancels m t id c m' ∧ e = .returned (.int .i64 c) ∧ PPost w L m m' w'

theorem PPost.after {w w1 w2 : World} {L : PL} {m m' : Mt} (k : Kep non w w1) (P : PPost w1 L m m' w2) : PPost w L m m' w2 := by
  obtain ⟨L', e, hs, R⟩ := P.rep
  exact ⟨k.none.trans P.kp, L', e, fun b hb => (hs b hb).imp id fun f => Nat.le_trans k.size f, R⟩

theorem back_any (w : World) (L : PL) (m : Mt) (N : Int) (R : PRep w L m) (ok : m.Ok N) {t id : Int} {h g s i x : Nat} {o : Od} (S : Spot m t id h g s i o) (hi : (L.ob h g s)[i]? = some x) :
    Calls Try.prog 56 #[.pointer (some ⟨L.x, 0, none⟩), .pointer (some ⟨x, 0, none⟩)] w fun e w' => e = .returned (.tuple #[]) ∧ PPost w L m (backM m h g s i o) w' := by
  have oo := ok.od h g s o S.q.1 S.q.2.1 S.q.2.2 (List.mem_of_getElem? S.ho)
  refine (takeBack_any w L m N R ok ok.bN o S.q hi S.ho ?_ (t := o.t.toNat) (by have := oo.t; omega)).mono fun e w' ⟨h1, h2⟩ => ⟨h1, ?_⟩
  · have := R.ln h g s S.q
    have h60 := ok.a60
    have := len_bk (m := m) S.q
    omega
  · refine h2.pp S.q ?_ ?_ ?_
    · show (releaseM _ _ _ _ _ _).G = _; unfold releaseM; split <;> rfl
    · show (releaseM _ _ _ _ _ _).H = _; unfold releaseM; split <;> rfl
    · intro j b hj
      obtain ⟨n, hn⟩ := List.mem_iff_getElem?.1 (List.mem_of_mem_eraseIdx (List.mem_of_getElem? hj))
      exact ⟨n, hn⟩

set_option maxRecDepth 100000 in
set_option maxHeartbeats 4000000 in
theorem cancel_any (w : World) (L : PL) (m : Mt) (N t id : Int) (R : PRep w L m) (ok : m.Ok N) :
    Calls Try.prog 26 #[.pointer (some ⟨L.x, 0, none⟩), .int .i64 t, .int .i64 id] w fun e w' => CanPost w L m t id e w' := by
  have c2 := R.cA.cell
  have bT := ok.T8
  by_cases ht : okI m.T t
  · have i1 := hide (inB_okI ht)
    have HF := hide (find_any w L m N t id R ok)
    go_enter Try.func26, Try.ntmps26
    go_wp2_with (first | (go_at_call 31; refine (hasTrader_b _ _ _ _ _ _ bT c2).mono ?_; rw [i1.out]; rintro e w ⟨rfl, rfl⟩))
    refine HF.out.mono ?_
    rintro e W ⟨hB, (⟨rfl, hn⟩ | ⟨h, g, s, i, x, o, q, hi, ho, et, eid, rfl⟩)⟩
    · have HP := hide (show CanPost w L m t id (.returned (.int .i64 9)) W from ⟨9, m, .inr (.inl ⟨ht, hn, rfl, rfl⟩), rfl, .same R (Kep.of_below hB)⟩)
      go_wp2
      go_ret
      exact HP.out
    · have HT := hide ((back_any W L m N (R.bel hB) ok ⟨q, ho, et, eid⟩ hi))
      have HK := hide (Kep.of_below (S := non) hB)
      have HP := hide (show ∀ W', PPost W L m (backM m h g s i o) W' → CanPost w L m t id (.returned (.int .i64 0)) W' from fun W' P => ⟨0, _, .inr (.inr ⟨ht, h, g, s, i, o, ⟨q, ho, et, eid⟩, rfl, rfl⟩), rfl, P.after HK.out⟩)
      go_wp2_with fail
      refine HT.out.mono ?_
      rintro e W' ⟨rfl, P⟩
      have HP' := hide (HP.out _ P)
      clear P
      go_wp2
      go_ret
      exact HP'.out
  · have i1 := hide (inB_not ht)
    have HP := hide (show CanPost w L m t id (.returned (.int .i64 2)) w from ⟨2, m, .inl ⟨ht, rfl, rfl⟩, rfl, .same R (Kep.refl _ _)⟩)
    go_enter Try.func26, Try.ntmps26
    go_wp2_with (first | (go_at_call 31; refine (hasTrader_b _ _ _ _ _ _ bT c2).mono ?_; rw [i1.out]; rintro e w ⟨rfl, rfl⟩))
    go_ret
    exact HP.out
end

/- The program's market: Orders. -/
section
open Go.RowKit Go.Sort

theorem infoOrder : (Try.prog.info? 42).map (fun i => (i.zero, i.size, i.bytes)) = some (some (.agg #[.int .i64 0, .int .i64 0, .int .i64 0, .int .i64 0, .int .i64 0, .int .i64 0, .int .i64 0, .int .i64 0]), 8, 64) := by kernel_rfl
theorem Od.oneCell' (l : Od) : ∀ u, u ∈ l.cells → u.oneCell' = true := by simp [Od.cells, Value.oneCell']
theorem odCells_append (a b : List Od) : odCells (a ++ b) = odCells a ++ odCells b := by simp [odCells]

/-- the orders of a trader -/
def ofT (t : Int) (l : List Od) : List Od := l.filter fun o => decide (o.t = t)

theorem ofT_take {t : Int} {l : List Od} {k : Nat} (hk : k < l.length) : ofT t (l.take (k + 1)) = ofT t (l.take k) ++ if l[k].t = t then [l[k]] else [] := by
  unfold ofT
  rw [List.take_add_one, List.getElem?_eq_getElem hk, List.filter_append]
  congr 1
  by_cases h : l[k].t = t <;> simp [h]

theorem ofT_len (t : Int) (l : List Od) : (ofT t l).length ≤ l.length := List.length_filter_le _ _

def OrdPost (w : World) (m : Mt) (t : Int) (e : Ending) (w' : World) : Prop :=
  Kep non w w' ∧ ((¬ okI m.T t ∧ e = .returned (.tuple #[.slice none 0 0, .int .i64 2])) ∨ (okI m.T t ∧ ∃ (v : Value) (l : List Od), l.Perm (ofT t m.all) ∧ l.Pairwise (fun a b => a.id ≤ b.id) ∧ w'.ownsRow w.heap.size 42 8 v l.length (odCells l) ∧ e = .returned (.tuple #[v, .int .i64 0])))

theorem Kep.past {a w w' : World} {B : Nat} (h : Kep non a w) (hB : a.heap.size ≤ B) (b : RowKit.Below B w w') : Kep non a w' :=
  ⟨b.os.trans h.os, b.tape.trans h.tape, b.output.trans h.output, Nat.le_trans h.size b.size, fun k hk hn => (b.block k (by omega)).trans (h.block k hk hn)⟩

set_option maxRecDepth 100000 in
set_option maxHeartbeats 4000000 in
theorem orders_any (w : World) (L : PL) (m : Mt) (N t : Int) (R : PRep w L m) (ok : m.Ok N) :
    Calls Try.prog 17 #[.pointer (some ⟨L.x, 0, none⟩), .int .i64 t] w fun e w' => OrdPost w m t e w' := by
  have c2 := R.cA.cell
  have bT := ok.T8
  by_cases ht : okI m.T t
  · have i1 := hide (inB_okI ht)
    have hlen := R.len_all
    have h60 := ok.a60
    have HW := hide (waiting_any w L m N R ok (by omega))
    have HF := hide (forall2_get R.odall).2
    clear R ok
    go_enter Try.func17, Try.ntmps17
    go_wp2_with (first | (go_at_call 31; refine (hasTrader_b _ _ _ _ _ _ bT c2).mono ?_; rw [i1.out]; rintro e w ⟨rfl, rfl⟩))
    refine HW.out.mono ?_
    rintro e W ⟨v, rfl, hown, hB⟩
    obtain ⟨ra, rc, rfl⟩ := row_form hown
    have HRow := hide hown
    clear hown HW
    have HB := hide hB
    obtain ⟨i0, hi0, hz0, hz1, hz2⟩ := info_parts infoOrder
    go_wp2
    go_loopw [6, 16] (fun a i wr => ∃ k : Nat, k ≤ m.all.length ∧ i = .int .i64 k ∧ wr.ownsRow W.heap.size 42 8 a (ofT t (m.all.take k)).length (odCells (ofT t (m.all.take k))) ∧ Kep non W wr) (fun _ i _ => m.all.length - (intOf i).toNat)
    case atStart => exact ⟨0, by omega, rfl, ⟨rfl, .inl ⟨rfl, rfl⟩⟩, Kep.refl _ _⟩
    case round =>
      obtain ⟨k, hk, rfl, hrow, hB2⟩ := hrel
      obtain ⟨sa, sc, rfl⟩ := row_form hrow
      by_cases hlt : k < m.all.length
      · have hb : k < (L.all m).length := by omega
        have hlt' : (k : Int) < ((L.all m).length : Int) := by omega
        obtain ⟨pb, pc, hpv, _, _⟩ := HRow.out.form (by omega)
        simp only [Value.slice.injEq, true_and] at hpv
        obtain ⟨rfl, rfl⟩ := hpv
        have c0 : wr.cell? ⟨pb, k, none⟩ = some (.pointer (some ⟨(L.all m)[k], 0, none⟩)) := by
          refine hB2.cell ?_ (fun q => q)
          rw [HRow.out.cellAt k (by omega)]
          simp [hb, optr]
        have od : OdAt wr (L.all m)[k] m.all[k] := fun j v q => (((HF.out k _ _ (by simp [hb]) (by simp [hlt])).below hB) j v q).kep hB2 (fun q => q)
        have o0 := (od 0 _ rfl).cell
        have o1 := (od 1 _ rfl).cell
        have o2 := (od 2 _ rfl).cell
        have o3 := (od 3 _ rfl).cell
        have o4 := (od 4 _ rfl).cell
        have o5 := (od 5 _ rfl).cell
        have o6 := (od 6 _ rfl).cell
        have o7 := (od 7 _ rfl).cell
        have HS := hide (ofT_take (t := t) hlt)
        have gl : (ofT t (m.all.take k)).length ≤ 60 := by have := ofT_len t (m.all.take k); have := List.length_take_le k m.all; omega
        generalize m.all[k] = o at *
        generalize (L.all m)[k] = x at *
        generalize ofT t (m.all.take k) = gs at *
        clear od
        have HK := hide hB2
        have HR := hide hrow
        clear hB2 hrow
        by_cases e1 : o.t = t
        · subst e1
          have e3 : Hid (gs ++ [o] = ofT o.t (m.all.take (k + 1))) := hide (by rw [HS.out, if_pos rfl])
          have lW := HK.out.size
          go_wp2_with (at_builtin; refine wpList_append_lies _ rfl _ _ _ rfl W.heap.size 42 i0 _ 8 64 Try.underlying44 hi0 hz0 hz1 hz2 rfl (by omega) _ gs.length (odCells gs) rfl (by exact HR.out.alloc _) ⟨wr.heap.size, 0, none⟩ 1 1 (Od.cells o) rfl rfl (by exact news_of_last' #[_, _, _, _, _, _, _, _] 42 (by simp)) (Od.oneCell' _) (by omega) (by simp only [maxLen]; omega) (by omega) (by simp; omega) (wr.heap.size + 1) (by simp) ?_)
          intro gg cap w1 hown1 hgrow hat hlt1
          have HK1 := hide ((HK.out.alloc _).grown hgrow (fun b hb => .inr (HR.out.lt b hb).1))
          have HR1 := hide hown1
          clear hown1 hgrow hat
          go_wp2
          exact ⟨⟨k + 1, by omega, by go_num, by rw [← e3.out, odCells_append]; simpa [odCells] using HR1.out, HK1.out⟩, by simp [intOf]; omega⟩
        · have e3 : Hid (gs = ofT t (m.all.take (k + 1))) := hide (by rw [HS.out, if_neg e1, List.append_nil])
          go_wp2
          exact ⟨⟨k + 1, by omega, by go_num, by rw [← e3.out]; exact HR.out, HK.out⟩, by simp [intOf]; omega⟩
      · have ek : m.all.take k = m.all := List.take_of_length_le (by omega)
        rw [ek] at hrow
        have HSo := hide (sort_row (by have := ofT_len t m.all; omega) hB2.size hrow)
        have HK := hide hB2
        have HT := hide ht
        rw [ek]
        generalize hnn : (ofT t m.all).length = nn at *
        have HN := hide hnn
        clear hrow hB2 hnn
        go_wp2_with fail
        refine HSo.out.mono ?_
        rintro e w2 ⟨rfl, l', hp, hs, hr, hb⟩
        have HP := hide (show OrdPost w m t (.returned (.tuple #[.slice sa nn sc, .int .i64 0])) w2 from ⟨(Kep.of_below HB.out).trans (HK.out.past (Nat.le_refl _) hb), .inr ⟨HT.out, _, l', hp, hs, ownsRow_mono (by rw [hp.length_eq, HN.out]; exact hr) HB.out.size, rfl⟩⟩)
        clear hp hs hr hb
        go_wp2
        go_ret2
        exact HP.out
  · have i1 := hide (inB_not ht)
    have HP := hide (show OrdPost w m t (.returned (.tuple #[.slice none 0 0, .int .i64 2])) w from ⟨Kep.refl _ _, .inl ⟨ht, rfl⟩⟩)
    go_enter Try.func17, Try.ntmps17
    go_wp2_with (first | (go_at_call 31; refine (hasTrader_b _ _ _ _ _ _ bT c2).mono ?_; rw [i1.out]; rintro e w' ⟨rfl, rfl⟩))
    go_ret2
    exact HP.out
end

end Go.Proofs.Ytcfoobhihhndjaa
