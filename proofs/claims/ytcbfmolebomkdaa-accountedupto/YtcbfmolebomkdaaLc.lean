/- The law's book: lists that are appended to and written over. -/
import Derived.Test.YtcbfmolebomkdaaKeep
import Derived.Deep.AppendLies
import Derived.Deep.RegionHeld3
import Derived.Deep.RegionLaw
import Derived.ArgAppend
namespace Go.Proofs.Ytcbfmolebomkdaa
open Go.RowKit

/-- the first k cells of a block are there, and may be written -/
def There (w : World) (g k : Nat) : Prop := ∀ j, j < k → (w.cell? ⟨g, j, none⟩).isSome = true ∧ w.frozen? ⟨g, j, none⟩ = false

theorem There.less {w : World} {g k k' : Nat} (h : There w g k) (hk : k' ≤ k) : There w g k' := fun j hj => h j (by omega)
theorem There.at {w : World} {g k : Nat} (h : There w g k) (j : Nat) (hj : j < k) : ∃ u, Own w ⟨g, j, none⟩ u := by
  obtain ⟨u, hu⟩ := Option.isSome_iff_exists.1 (h j hj).1
  exact ⟨u, hu, (h j hj).2⟩

/-- w' is w, but for cells of the row, and new blocks; what was there is there -/
structure Ext (row : Option Nat) (w w' : World) : Prop where
  kp : Keeps row.toList w w'
  th : ∀ g k, There w g k → There w' g k

theorem Ext.refl (row : Option Nat) (w : World) : Ext row w w := ⟨Keeps.refl _ _, fun _ _ h => h⟩
theorem Ext.trans {row : Option Nat} {a b c : World} (h : Ext row a b) (k : Ext row b c) : Ext row a c := ⟨h.kp.trans k.kp, fun g n q => k.th g n (h.th g n q)⟩
theorem There.keep {w w' : World} {S : List Nat} {g k : Nat} (h : There w g k) (kp : Keeps S w w') (hg : g ∉ S) : There w' g k := fun j hj => by
  obtain ⟨u, hu⟩ := h.at j hj
  have := hu.keep kp hg
  exact ⟨by rw [this.cell]; rfl, this.free⟩
theorem Ext.of_keeps {row : Option Nat} {w w' : World} (k : Keeps [] w w') : Ext row w w' := ⟨k.mono (by simp), fun _ _ h => h.keep k (by simp)⟩
theorem Ext.alloc {row : Option Nat} {a w : World} (h : Ext row a w) (o : Obj) : Ext row a (w.alloc o) := h.trans (.of_keeps ((Keeps.refl _ _).alloc o))
theorem Ext.drew {row : Option Nat} {a w : World} (h : Ext row a w) : Ext row a w.drew := h.trans (.of_keeps ((Keeps.refl _ _).drew))

theorem There.setCell {w : World} {g k : Nat} (h : There w g k) (b o : Nat) (v : Value) : There (w.setCell ⟨b, o, none⟩ v) g k := fun j hj => by
  obtain ⟨u, hu⟩ := h.at j hj
  by_cases e : (⟨g, j, none⟩ : Addr) = ⟨b, o, none⟩
  · rw [← e]
    have := hu.set rfl v
    exact ⟨by rw [this.cell]; rfl, this.free⟩
  · have := hu.set_other e rfl rfl v
    exact ⟨by rw [this.cell]; rfl, this.free⟩

theorem There.setCells {w : World} {g k : Nat} (h : There w g k) (b o : Nat) (vs : List Value) : There (w.setCells b o vs) g k := by
  induction vs generalizing w o with
  | nil => exact h
  | cons v r ih => exact ih (h.setCell b o v) (o + 1)

theorem keeps_setCells' {a w : World} {S : List Nat} {b : Nat} (h : Keeps S a w) (hb : b ∈ S ∨ a.heap.size ≤ b) (o : Nat) (vs : List Value) : Keeps S a (w.setCells b o vs) := by
  induction vs generalizing w o with
  | nil => exact h
  | cons v r ih => exact ih (h.setCell (p := ⟨b, o, none⟩) hb v) (o + 1)

/-- a list of its owner's: n elements of size z, room for c -/
def LRow (w : World) (l : Value) (z n c : Nat) : Prop :=
  (l = .slice none 0 0 ∧ n = 0 ∧ c = 0) ∨ ∃ g, l = .slice (some ⟨g, 0, none⟩) n c ∧ n ≤ c ∧ There w g (c * z)

theorem LRow.ext {w w' : World} {l : Value} {z n c : Nat} {row : Option Nat} (h : LRow w l z n c) (e : Ext row w w') : LRow w' l z n c := by
  rcases h with h | ⟨g, h1, h2, h3⟩
  · exact .inl h
  · exact .inr ⟨g, h1, h2, e.th _ _ h3⟩

theorem LRow.form {w : World} {l : Value} {z n c : Nat} (h : LRow w l z n c) : ∃ a, l = .slice a n c := by
  rcases h with ⟨h1, rfl, rfl⟩ | ⟨g, h1, _⟩
  · exact ⟨_, h1⟩
  · exact ⟨_, h1⟩

theorem there_row {w : World} {g n e size : Nat} {xs : List Value} {c : Nat} (h : w.ownsRow 0 e size (.slice (some ⟨g, 0, none⟩) n c) n xs) : There w g (c * size) := by
  rcases h.2 with ⟨h1, _⟩ | ⟨g', c', cur, h1, _, hg, hn, hm, hc, ht⟩
  · simp at h1
  · simp only [Value.slice.injEq, Option.some.injEq, Addr.mk.injEq, and_true, true_and] at h1
    obtain ⟨rfl, rfl⟩ := h1
    intro j hj
    rw [cell_of_row w g j cur e (0, 0) hg]
    exact ⟨by simp [hc, hj], frozen_of_row w g j cur e hg⟩

theorem LRow.of_row {w : World} {v : Value} {n e size b : Nat} {xs : List Value} (h : w.ownsRow b e size v n xs) : ∃ c, LRow w v size n c := by
  rcases h.2 with ⟨h1, h2⟩ | ⟨g', c', cur, h1, _, hg, hn, hm, hc, ht⟩
  · exact ⟨0, .inl ⟨h1, h2, rfl⟩⟩
  · refine ⟨c', .inr ⟨g', h1, hn, fun j hj => ?_⟩⟩
    rw [cell_of_row w g' j cur e (0, 0) hg]
    exact ⟨by simp [hc, hj], frozen_of_row w g' j cur e hg⟩

/-- the run of an append onto such a list, both arms hidden -/
theorem run_app {P : Program} (w : World) (t ty e : TypeId) (i : TypeInfo) (z : Value) (size bytes : Nat) (ht : P.underlying t = some (.slice e)) (hi : P.info? e = some i) (hz : i.zero = some z)
    (hsize : i.size = size) (hby : i.bytes = bytes) (hzs : z.cells.size = size) (hsz : 0 < size) (hbs : bytes ≤ 1000)
    (l : Value) (n c : Nat) (hl : LRow w l size n c) (ad : Addr) (m cc : Nat) (news : List Value) (hn : news.length = m * size) (hc : ∀ j u, news[j]? = some u → w.cell? (ad.add j) = some u) (h1c : ∀ u ∈ news, u.oneCell' = true) (hm : 0 < m) (hnm : n + m ≤ 10000000) :
    ∃ g c' w', (Builtin.append_ #[t, t] ty #[l, .slice (some ad) m cc]).run P w = .ok (.slice (some ⟨g, 0, none⟩) (n + m) c') w' ∧ (l.ownBlock = some g ∨ w.heap.size ≤ g) ∧ g < w'.heap.size ∧ There w' g ((n + m) * size) ∧ Ext l.ownBlock w w' := by
  have hb2 : (n + m) * bytes ≤ 140737488355328 := by
    have : (n + m) * bytes ≤ 10000000 * 1000 := Nat.mul_le_mul hnm hbs
    omega
  have hb1 : n + m ≤ maxLen := by simp only [maxLen]; omega
  rcases hl with ⟨rfl, rfl, rfl⟩ | ⟨g, rfl, hnc, hth⟩
  · obtain ⟨g, cap, w', hr, h1, h2, h3, h4⟩ := run_append_lies (P := P) w t ty 0 e i z size bytes ht hi hz hsize hby hzs hsz (.slice none 0 0) 0 [] (World.ownsRow_nil _ _ _ _) ad m cc news hn hc h1c hm hb1 hb2 (Nat.zero_le _) _ rfl
    have hg : w.heap.size ≤ g := by
      rcases h3 with h3 | h3
      · simp [Value.ownBlock] at h3
      · omega
    have hlc : 0 + m ≤ cap := by
      rcases h1.2 with ⟨q, _⟩ | ⟨_, _, _, q, _, _, q2, _⟩
      · simp at q
      · simp only [Value.slice.injEq, true_and] at q
        rw [q.2]; exact q2
    exact ⟨g, cap, w', hr, .inr hg, h4, (there_row h1).less (Nat.mul_le_mul_right _ hlc), .of_keeps ((Keeps.refl _ _).grown h2 (by simp [Value.ownBlock]))⟩
  · by_cases hroom : n + m ≤ c
    · subst hsize
      have hin : ∀ j, j < news.length → 0 + n * i.size + j < c * i.size := fun j hj => by
        have : (n + m) * i.size ≤ c * i.size := Nat.mul_le_mul_right _ hroom
        rw [Nat.add_mul] at this
        omega
      have hr := run_append_room_cells (P := P) w t ty e i ht hi g 0 n c ad m cc news hn hc h1c hroom (fun j hj => (hth _ (hin j hj)).1) (fun j hj => (hth _ (hin j hj)).2)
      have hth' := hth.setCells g (0 + n * i.size) news
      have hlt : g < (w.setCells g (0 + n * i.size) news).heap.size := by
        have hpos : 0 < c * i.size := Nat.mul_pos (by omega) hsz
        obtain ⟨u, hu⟩ := hth'.at 0 hpos
        exact hu.lt
      exact ⟨g, c, _, hr, .inl rfl, hlt, hth'.less (Nat.mul_le_mul_right _ hroom), keeps_setCells' (Keeps.refl _ _) (.inl (by simp [Value.ownBlock])) _ _, fun _ _ h => h.setCells _ _ _⟩
    · have hval : ∀ j, j < n * size → ∃ u, w.cell? ⟨g, j, none⟩ = some u := fun j hj => by
        have : n * size ≤ c * size := Nat.mul_le_mul_right _ hnc
        obtain ⟨u, hu⟩ := hth.at j (by omega)
        exact ⟨u, hu.cell⟩
      let olds : List Value := (List.range (n * size)).map fun j => (w.cell? ⟨g, j, none⟩).getD default
      have hlo : olds.length = n * size := by simp [olds]
      have holds : ∀ j u, olds[j]? = some u → w.cell? ((⟨g, 0, none⟩ : Addr).add j) = some u := fun j u hu => by
        have hj : j < n * size := by have := (List.getElem?_eq_some_iff.1 hu).1; rw [hlo] at this; exact this
        obtain ⟨x, hx⟩ := hval j hj
        have : olds[j]? = some ((w.cell? ⟨g, j, none⟩).getD default) := by simp [olds, hj]
        rw [this, hx] at hu
        have hadd : (⟨g, 0, none⟩ : Addr).add j = ⟨g, j, none⟩ := by unfold Addr.add; split <;> simp_all
        rw [hadd, hx]
        simpa using hu
      obtain ⟨v', w', hr, h1, h2⟩ := run_append_arg_grows (P := P) w t ty e i z size bytes ht hi hz hsize hby hzs hsz ⟨g, 0, none⟩ n c olds hlo holds ad m cc news hn hc (by omega) hb1 hb2
      obtain ⟨g', cap, rfl, hbg, hlt⟩ := h1.form (by omega)
      have h1' : w'.ownsRow 0 e size (.slice (some ⟨g', 0, none⟩) (n + m) cap) (n + m) (olds ++ news) := by
        refine ⟨h1.1, ?_⟩
        rcases h1.2 with q | ⟨a, b, d, q, _, r⟩
        · exact .inl q
        · exact .inr ⟨a, b, d, q, Nat.zero_le _, r⟩
      have hlc : n + m ≤ cap := by
        rcases h1.2 with ⟨q, _⟩ | ⟨_, _, _, q, _, _, q2, _⟩
        · simp at q
        · simp only [Value.slice.injEq, true_and] at q
          rw [q.2]; exact q2
      exact ⟨g', cap, w', hr, .inr hbg, hlt, (there_row h1').less (Nat.mul_le_mul_right _ hlc), .of_keeps ((Keeps.refl _ _).grown h2 (by simp))⟩

/-- at a step of a region that draws its order -/
theorem step_app {P : Program} {w : World} {ops : Array Oper} {o : Oper} {a : Act} {K : Act → World → Prop} {Q : Exit → Act → World → Prop} {E : Prop} (hgd : o.guard = none) (s x : Operand) (t : TypeId)
    (ho : o.op = .call { callee := .builtin .append, args := #[s, x], argTypes := #[t, t] })
    (e : TypeId) (i : TypeInfo) (z : Value) (size bytes : Nat) (ht : P.underlying t = some (.slice e)) (hi : P.info? e = some i) (hz : i.zero = some z)
    (hsize : i.size = size) (hby : i.bytes = bytes) (hzs : z.cells.size = size) (hsz : 0 < size) (hbs : bytes ≤ 1000)
    (l : Value) (n c : Nat) (hs : a.eval s = l) (hl : LRow w l size n c) (ad : Addr) (m cc : Nat) (news : List Value) (hx : a.eval x = .slice (some ad) m cc) (hn : news.length = m * size) (hc : ∀ j u, news[j]? = some u → w.cell? (ad.add j) = some u) (h1c : ∀ u ∈ news, u.oneCell' = true) (hm : 0 < m) (hnm : n + m ≤ 10000000)
    (h : ∀ g c' w', (l.ownBlock = some g ∨ w.heap.size ≤ g) → g < w'.heap.size → There w' g ((n + m) * size) → Ext l.ownBlock w w' → K (a.put o.dst (.slice (some ⟨g, 0, none⟩) (n + m) c')) w') :
    if Region.wanted o (yielded ops a.tmps) = true then Oper.wp P o a w K Q else E := by
  have hw : Region.wanted o (yielded ops a.tmps) = true := by simp [Region.wanted, hgd]
  rw [if_pos hw]
  obtain ⟨g, c', w', hr, h2, h3, h4, h5⟩ := run_app (P := P) w t o.type e i z size bytes ht hi hz hsize hby hzs hsz hbs l n c hl ad m cc news hn hc h1c hm hnm
  unfold Oper.wp execOp
  simp only [ho, resolve, invoke, builtin, Sem.run_bind, Sem.run_pure, Result.andThen_ok, List.map_toArray, List.map_cons, List.map_nil, hs, hx, hr]
  exact h g c' w' h2 h3 h4 h5

end Go.Proofs.Ytcbfmolebomkdaa
