/- levels, Book; Undone: an order that comes to wait, and is taken back. -/
import Derived.Test.YtcfoobhihhndjaaWu
import Derived.RangeFuncCalls
import Derived.OrdersIn
namespace Go.Proofs.Ytcfoobhihhndjaa

section
open Go.RowKit Go.Sort

theorem oper_in {P : Program} {r n : Nat} {Q : Exit → Act → World → Prop} (hQ : ¬ LetsOut Q) {o : Oper} (hd : ∀ c, o.op ≠ .defer c) {a : Act} {w : World} {K K' : Act → World → Prop} (hK : ∀ a w, K a w → K' a w) (h : o.wp P a w K Q) : o.wpIn (Fence.wide.inRound r) n P a w K' Q := by
  unfold Oper.wp at h
  unfold Oper.wpIn
  refine ⟨fun _ _ => trivial, ?_⟩
  rw [Oper.semAt_eq _ _ _ hd]
  generalize (execOp a.eval o).run P w = res at *
  cases res with
  | ok x w' =>
    cases x with
    | value v => exact hK _ _ h
    | skip => exact hK _ _ h
    | defer d => exact hK _ _ h
    | enter f args =>
      refine ⟨fun f => by simp [Fence.wide, Fence.inRound] at f, CallsIn.inRound r ((callsIn_wide).2 (Calls.mono h fun e w'' he => ?_))⟩
      cases e with
      | returned v => exact hK _ _ he
      | panicked c => exact he
      | outgrown => exact absurd he hQ
    | row row args =>
      refine ⟨fun f => by simp [Fence.wide, Fence.inRound] at f, fun c cs _ => ?_⟩
      obtain ⟨v, w2, h1, h2⟩ := h c cs
      exact ⟨v, w2, hK _ _ h1, stepsIn_wide.2 h2⟩
    | round l f tmps assign body => exact h.elim
    | _ => exact h.elim
  | halt x w' =>
    cases x <;> first | exact h | exact h.elim

theorem any_in {P : Program} {r n : Nat} {md : Region.Mode} {ops : Array Oper} {Q : Exit → Act → World → Prop} (hQ : ¬ LetsOut Q) (hd : ∀ (i : Nat) (o : Oper), ops[i]? = some o → ∀ c, o.op ≠ .defer c) : ∀ (fuel : Nat) (listed : Array Bool) (a : Act) (w : World), wpAny P md ops Q fuel listed a w → wpAnyIn (Fence.wide.inRound r) n P md ops Q fuel listed a w
  | 0, _, _, _, h => h
  | fuel + 1, listed, a, w, h => by
    refine ⟨h.1, fun i hi => ?_⟩
    have h1 := h.2 i hi
    unfold wpOp at h1
    unfold wpOpIn
    cases e : ops[i]? with
    | none => rw [e] at h1; exact any_in hQ hd fuel _ _ _ h1
    | some o =>
      rw [e] at h1
      simp only at h1 ⊢
      by_cases hw : Region.wanted o (yielded ops a.tmps) = true
      · rw [if_pos hw] at h1 ⊢
        rcases h1 with h1 | ⟨_, h1⟩
        · exact oper_in hQ (hd i o e) (fun a w h => any_in hQ hd fuel _ a w h) h1
        · exact absurd h1 hQ
      · rw [if_neg hw] at h1 ⊢
        exact ⟨fun _ _ => trivial, any_in hQ hd fuel _ _ _ h1⟩

def noDefer (l : List Oper) : Bool := l.all fun o => match o.op with
  | .defer _ => false
  | _ => true
theorem noDefer_spec {l : List Oper} (h : noDefer l = true) : ∀ (i : Nat) (o : Oper), l.toArray[i]? = some o → ∀ c, o.op ≠ .defer c := fun i o ho c e => by
  have h1 := List.all_eq_true.1 h o (List.mem_of_getElem? (by simpa using ho))
  rw [e] at h1
  cases h1

/-- all orders of a region, in a round: walked as outside of one -/
theorem region_any_in {P : Program} {r n0 id : Nat} {Q : Exit → Act → World → Prop} {a : Act} {w : World} {l : List Oper} (hm : P.follows .mixedOrders = true) (hnd : noDefer l = true)
    (h : ∀ Q' : Exit → Act → World → Prop, (∀ a' w', Q .normal a' w' → Q' .normal a' w') → (∀ c a' w', ¬ Q' (.panic c) a' w') → wpAny P .any l.toArray Q' l.toArray.size (Array.replicate l.toArray.size false) a w.drew) : (Code.region id l.toArray true).wpIn (Fence.wide.inRound r) n0 P Q a w := by
  have h := h (fun e a w => e = .normal ∧ Q e a w) (fun a' w' q => ⟨rfl, q⟩) (fun c a' w' f => by cases f.1)
  have hQ : ¬ LetsOut (fun e a w => e = Exit.normal ∧ Q e a w) := fun ⟨_, _, f, _⟩ => by cases f
  exact Code.wpIn_mono (fun _ _ _ q => q.2) (wpIn_region_any hm (any_in hQ (noDefer_spec hnd) _ _ _ _ h))

/-- region_tail, in a round -/
theorem region_tail_in {P : Program} {r n0 id : Nat} {Q : Exit → Act → World → Prop} {a : Act} {w : World} {l : List Oper} (n : Nat) (hm : P.follows .mixedOrders = true) (hB : Region.lexTailB .any l.toArray n = true) (hnd : noDefer l = true) (V : World) (hV : V = w.drew)
    (h : ∀ Q' : Exit → Act → World → Prop, (∀ a' w', Q .normal a' w' → Q' .normal a' w') → wpStill P l.toArray V (fun a' => wpList P l.toArray Q' (l.drop n) a' V) (l.take n) a) : (Code.region id l.toArray true).wpIn (Fence.wide.inRound r) n0 P Q a w := by
  subst hV
  have h := h (fun e a w => e ≠ .outgrown ∧ Q e a w) fun a' w' q => ⟨by simp, q⟩
  have hQ : ¬ LetsOut (fun e a w => e ≠ Exit.outgrown ∧ Q e a w) := fun ⟨_, _, f, _⟩ => f rfl
  simp only [Region.lexTailB, Bool.and_eq_true, decide_eq_true_eq] at hB
  obtain ⟨⟨⟨⟨hsel, hn⟩, hs⟩, hc⟩, hlex⟩ := hB
  have hn' : n < l.length := by simpa using hn
  have htl : (l.take n).length = n := by rw [List.length_take]; omega
  have hdl : (l.drop n).length = l.toArray.size - n := by simp
  have i0 : HeadInv .any l.toArray n (Array.replicate l.toArray.size false) :=
    ⟨by simp, fun _ _ _ q => (by rw [getD_replicate_false] at q; cases q), fun _ _ q => getD_in (by simpa using q) (getD_replicate_false _ _)⟩
  have H := wpAnyL_lex (md := .any) (g := l.toArray.size - n) hsel hs hc hn (l.take n) 0 _ a (fun j hj => by
    rw [htl] at hj
    simp [hj]) (by simpa using htl) i0 (by rw [htl]; exact hlex) h
  have H2 := wpAny_of_head (Q' := fun e a w => e ≠ .outgrown ∧ Q e a w) (g := l.toArray.size - n) (fun listed a' hL => by
    have q := wpAny_of_seq (md := .any) (Q' := fun e a w => e ≠ .outgrown ∧ Q e a w) (l.drop n) n listed a' w.drew (fun j => by simp [List.getElem?_drop]) (by rw [hdl]; exact hL.1) hL.2
    rwa [hdl] at q) _ _ _ H
  rw [htl, show n + (l.toArray.size - n) = l.toArray.size by omega] at H2
  exact Code.wpIn_mono (fun _ _ _ q => q.2) (wpIn_region_any hm (any_in hQ (noDefer_spec hnd) _ _ _ _ H2))

end

section
open Go.RowKit Go.Sort

attribute [local go_sem] Oper.semAt_some
attribute [local irreducible] wpStill

/-- a level -/
structure Lv where
  p : Int
  q : Int
  n : Int

def Lv.cells (l : Lv) : List Value := [.int .i64 l.p, .int .i64 l.q, .int .i64 l.n]
def lvCells (l : List Lv) : List Value := l.flatMap Lv.cells

theorem lvCells_append (a b : List Lv) : lvCells (a ++ b) = lvCells a ++ lvCells b := by simp [lvCells]
theorem lvCells_length (a : List Lv) : (lvCells a).length = a.length * 3 := by
  induction a with
  | nil => rfl
  | cons x a ih => simp only [lvCells, List.flatMap_cons, List.length_append] at ih ⊢; rw [ih]; simp [Lv.cells]; omega

/-- the levels of some orders; the last one is under way -/
def lvStep (gs : List Lv) (o : Od) : List Lv :=
  match gs.getLast? with
  | none => [⟨o.p, o.q, 1⟩]
  | some l => if l.p = o.p then gs.dropLast ++ [⟨l.p, l.q + o.q, l.n + 1⟩] else gs ++ [⟨o.p, o.q, 1⟩]
def lvL (os : List Od) : List Lv := os.foldl lvStep []

theorem lvL_snoc (os : List Od) (o : Od) : lvL (os ++ [o]) = lvStep (lvL os) o := by unfold lvL; rw [List.foldl_append]; rfl

theorem lvStep_bd {gs : List Lv} {o : Od} {k : Nat} (h : ∀ l ∈ gs, (0 ≤ l.q ∧ l.q ≤ 10000 * (k : Int)) ∧ (0 ≤ l.n ∧ l.n ≤ k)) (hl : gs.length ≤ k) (hq : 1 ≤ o.q ∧ o.q ≤ 10000) : (∀ l ∈ lvStep gs o, (0 ≤ l.q ∧ l.q ≤ 10000 * ((k + 1 : Nat) : Int)) ∧ (0 ≤ l.n ∧ l.n ≤ ((k + 1 : Nat) : Int))) ∧ (lvStep gs o).length ≤ k + 1 := by
  have up : ∀ l ∈ gs, (0 ≤ l.q ∧ l.q ≤ 10000 * ((k + 1 : Nat) : Int)) ∧ (0 ≤ l.n ∧ l.n ≤ ((k + 1 : Nat) : Int)) := fun l hl => by
    have := h l hl
    omega
  unfold lvStep
  cases e : gs.getLast? with
  | none =>
    refine ⟨fun l hl => ?_, by simp⟩
    rw [List.mem_singleton.1 hl]
    simp only
    omega
  | some z =>
    have hz := h z (List.mem_of_getLast? e)
    simp only
    by_cases ep : z.p = o.p
    · rw [if_pos ep]
      refine ⟨fun l hl => ?_, by simp; omega⟩
      rcases List.mem_append.1 hl with hl | hl
      · exact up l (List.dropLast_subset gs hl)
      · rw [List.mem_singleton.1 hl]
        simp only
        omega
    · rw [if_neg ep]
      refine ⟨fun l hl => ?_, by simp; omega⟩
      rcases List.mem_append.1 hl with hl | hl
      · exact up l hl
      · rw [List.mem_singleton.1 hl]
        simp only
        omega

theorem lvL_bd (os : List Od) (h : ∀ o ∈ os, 1 ≤ o.q ∧ o.q ≤ 10000) : (∀ l ∈ lvL os, (0 ≤ l.q ∧ l.q ≤ 10000 * (os.length : Int)) ∧ (0 ≤ l.n ∧ l.n ≤ (os.length : Int))) ∧ (lvL os).length ≤ os.length := by
  have gen : ∀ k, k ≤ os.length → (∀ l ∈ lvL (os.take k), (0 ≤ l.q ∧ l.q ≤ 10000 * (k : Int)) ∧ (0 ≤ l.n ∧ l.n ≤ (k : Int))) ∧ (lvL (os.take k)).length ≤ k := fun k => by
    induction k with
    | zero => intro _; refine ⟨fun l hl => ?_, by simp [lvL]⟩; simp [lvL] at hl
    | succ k ih =>
      intro hk
      have i := ih (by omega)
      rw [List.take_add_one, List.getElem?_eq_getElem (by omega), Option.toList_some, lvL_snoc]
      exact lvStep_bd i.1 i.2 (h _ (List.getElem_mem _))
  have := gen os.length (Nat.le_refl _)
  rwa [List.take_length] at this

theorem infoLevel : (Try.prog.info? 69).map (fun i => (i.zero, i.size, i.bytes)) = some (some (.agg #[.int .i64 0, .int .i64 0, .int .i64 0]), 3, 24) := by kernel_rfl

theorem Lv.oneCell' (l : Lv) : ∀ u, u ∈ l.cells → u.oneCell' = true := by simp [Lv.cells, Value.oneCell']

theorem lvCells_set1 (gs : List Lv) (l : Lv) (u : Int) : (lvCells (gs ++ [l])).set (gs.length * 3 + 1) (.int .i64 u) = lvCells (gs ++ [⟨l.p, u, l.n⟩]) := by
  rw [lvCells_append, lvCells_append, List.set_append_right _ _ (by rw [lvCells_length]; omega), lvCells_length]
  simp [lvCells, Lv.cells]
theorem lvCells_set2 (gs : List Lv) (l : Lv) (u : Int) : (lvCells (gs ++ [l])).set (gs.length * 3 + 2) (.int .i64 u) = lvCells (gs ++ [⟨l.p, l.q, u⟩]) := by
  rw [lvCells_append, lvCells_append, List.set_append_right _ _ (by rw [lvCells_length]; omega), lvCells_length]
  simp [lvCells, Lv.cells]
theorem lvCells_last (gs : List Lv) (l : Lv) (j : Nat) (hj : j < 3) : (lvCells (gs ++ [l]))[gs.length * 3 + j]? = l.cells[j]? := by
  rw [lvCells_append, List.getElem?_append_right (by rw [lvCells_length]; omega), lvCells_length]
  simp [lvCells]

/-- levels, under way -/
def LvSt (w : World) (gs : List Lv) (W : World) : Prop := (∃ v, Boxed W w.heap.size 65 v ∧ W.ownsRow w.heap.size 69 3 v gs.length (lvCells gs) ∧ True) ∧ Below w.heap.size w W

theorem lv_own {β : Type} (B : Nat) (w : World) (f : β → List Lv) (hB : w.heap.size ≤ B) : OwnFrom B (fun (s : β) W => LvSt w (f s) W) :=
  OwnFrom.and (Own.from (holdsRow_own w.heap.size w.heap.size 65 69 3 (fun s => (f s).length) (fun s => lvCells (f s)) (fun _ _ => True)) _) (ownFrom_below (Nat.le_refl _) hB)

theorem lv_fin {w W V : World} {gs : List Lv} {l : Lv} {gb cap : Nat} (hv : Boxed V w.heap.size 65 (.slice (some ⟨gb, 0, none⟩) (gs.length + 1) cap)) (hr : V.ownsRow w.heap.size 69 3 (.slice (some ⟨gb, 0, none⟩) (gs.length + 1) cap) (gs.length + 1) (lvCells (gs ++ [l]))) (ko : KeepsOthers W V) (kb : Below w.heap.size W V) (hB : Below w.heap.size w W) (q n : Int) :
    KeepsOthers W ((V.setCell ⟨gb, gs.length * 3 + 1, none⟩ (.int .i64 q)).setCell ⟨gb, gs.length * 3 + 2, none⟩ (.int .i64 n)) ∧ Below w.heap.size W ((V.setCell ⟨gb, gs.length * 3 + 1, none⟩ (.int .i64 q)).setCell ⟨gb, gs.length * 3 + 2, none⟩ (.int .i64 n)) ∧ LvSt w (gs ++ [⟨l.p, q, n⟩]) ((V.setCell ⟨gb, gs.length * 3 + 1, none⟩ (.int .i64 q)).setCell ⟨gb, gs.length * 3 + 2, none⟩ (.int .i64 n)) := by
  have lg := (hr.lt gb rfl).1
  have hne := hv.not_row (by decide) hr
  obtain ⟨r1, g1⟩ := hr.stored (gs.length * 3 + 1) (.int .i64 q)
  rw [lvCells_set1] at r1
  obtain ⟨r2, g2⟩ := r1.stored (gs.length * 3 + 2) (.int .i64 n)
  rw [lvCells_set2] at r2
  have b1 := hv.kept g1 hne
  have b2 := b1.kept g2 hne
  have kb2 := (kb.setCell (p := ⟨gb, gs.length * 3 + 1, none⟩) lg (.int .i64 q)).setCell (p := ⟨gb, gs.length * 3 + 2, none⟩) lg (.int .i64 n)
  exact ⟨(ko.trans (KeepsOthers.setCell _ _ _)).trans (KeepsOthers.setCell _ _ _), kb2, ⟨_, b2, by simpa using r2, trivial⟩, hB.trans kb2⟩

theorem dropLast_of {gs : List Lv} {l : Lv} (h : gs.getLast? = some l) : gs.dropLast ++ [l] = gs := by
  have hne : gs ≠ [] := fun e => by rw [e] at h; cases h
  rw [List.getLast?_eq_some_getLast hne] at h
  have e : gs.getLast hne = l := by simpa using h
  rw [← e]
  exact List.dropLast_concat_getLast hne

theorem meetsL {X : Act → World → Prop} {G : Prop} {F : Nat → Nat → World → Prop} {A : Nat → Nat → Act} {W : Nat → Nat → World → World} (ways : (∀ g c w1, F g c w1 → X (A g c) (W g c w1)) → G) (rest : ∀ g c w1, F g c w1 → X (A g c) (W g c w1)) : G := ways rest

set_option maxRecDepth 100000 in
set_option maxHeartbeats 4000000 in
theorem levels_any (w : World) (L : PL) (m : Mt) (N : Int) (R : PRep w L m) (ok : m.Ok N) (h g s : Nat) (q1 : at3 m h g s) :
    Calls Try.prog 51 #[.pointer (some ⟨L.qb h g s, 0, none⟩)] w fun e w' => ∃ v, e = .returned v ∧ w'.ownsRow w.heap.size 69 3 v (lvL (m.bk h g s)).length (lvCells (lvL (m.bk h g s))) ∧ Below w.heap.size w w' ∧ w.heap.size < w'.heap.size := by
  have HR := hide R
  have HO := hide ok
  obtain ⟨i0, hi, hz0, hz1, hz2⟩ := info_parts infoLevel
  obtain ⟨qa, qc, hqv⟩ := R.qvform q1
  have HA := hide (show ∀ W, Below w.heap.size w W → Calls Try.prog 63 #[.pointer (some ⟨L.qb h g s, 0, none⟩)] W fun e w' => e = .returned (.func (.func 96) #[] #[.pointer (some ⟨W.heap.size, 0, none⟩)]) ∧ w' = W.alloc (.cells #[.slice qa (L.ob h g s).length qc] 88) from fun W S =>
    all_any _ _ _ _ _ (by have := ((R.bel S).q1 h g s q1).cell; rwa [hqv] at this))
  have S0 : LvSt w [] ((w.alloc (.cells #[.slice none 0 0] 65)).alloc (.cells #[.slice qa (L.ob h g s).length qc] 88)) :=
    ⟨⟨.slice none 0 0, (Boxed.new w 65 (.slice none 0 0)).alloc _, ⟨rfl, .inl ⟨rfl, rfl⟩⟩, trivial⟩, ((Below.refl _ w).alloc (Nat.le_refl _) _).alloc (by simp) _⟩
  have hcb : ((w.alloc (.cells #[.slice none 0 0] 65)).alloc (.cells #[.slice qa (L.ob h g s).length qc] 88)).cell? ⟨w.heap.size + 1, 0, none⟩ = some (.slice qa (L.ob h g s).length qc) := by
    simp
  have HB1 := hide (show Below w.heap.size w (w.alloc (.cells #[.slice none 0 0] 65)) from (Below.refl _ w).alloc (Nat.le_refl _) _)
  have hmx := mixed
  clear R ok
  refine (callsIn_wide (n := 3)).1 ?_
  refine callsIn_of_wp_marks Try.func51 rfl trivial ?_ rfl
  simp only [Try.ntmps51, List.size_toArray, List.length_cons, List.length_nil, Nat.reduceAdd, Nat.reduceSub, Array.replicate_succ, Array.replicate_zero, List.push_toArray, List.append_toArray, List.nil_append, List.cons_append]
  refine wpIn_wide.2 ?_
  go_wp2_with (go_at_call 63; refine (HA.out _ HB1.out).mono ?_; rintro e w' ⟨rfl, rfl⟩)
  generalize (w.alloc (.cells #[.slice none 0 0] 65)).alloc (.cells #[.slice qa (L.ob h g s).length qc] 88) = wc at *
  obtain ⟨zs, hz1', hz2'⟩ := HR.out.seq HO.out q1
  have hp : Ptrs w.heap.size wc (.slice qa (L.ob h g s).length qc) (zs.map fun z => z.1.1) := by
    have h0 := (HR.out.ptrs q1).below S0.2
    rw [hqv] at h0
    rw [hz1']
    exact h0
  have lwc : w.heap.size + 1 < wc.heap.size := World.block_lt_of_cell? wc _ hcb
  have HZ2 := hide hz2'
  have hl60 : zs.length ≤ 60 := by
    have h0 := congrArg List.length hz2'
    rw [List.length_map] at h0
    have h1 := HO.out.a60
    have h2 := len_bk q1
    omega
  clear hz1' hz2' HA HB1
  refine (wpIn_wide (n := 3)).1 ?_
  refine wpIn_rangeFunc_ownG (F := Fence.wide) (n := 3) rfl (by omega) (gf := 96) (lb := #[.pointer (some ⟨w.heap.size + 1, 0, none⟩)]) rfl trivial (enters_of Try.func96 (by kernel_rfl) rfl)
    (values_stops (fun z : { p : Nat × Od // Good w p.1 p.2 } => z.1.1) Fence.wide 2 trivial rfl (by omega) (w.heap.size + 1) w.heap.size (.slice qa (L.ob h g s).length qc) zs (by omega) _ lwc (by omega) hcb hp) belowK_t (belowK_b (by omega)) (Below.refl _ _) (fun _ => rfl)
    (fun pre W => LvSt w (lvL (pre.map fun z => z.1.2)) W)
    (fun _ _ _ => False)
    (lv_own _ w _ (by omega))
    (fun _ _ _ _ _ hs _ _ => hs)
    S0
    (fun x => { tmps := #[.pointer (some ⟨L.qb h g s, 0, none⟩), undef, .slice none 0 0, .pointer (some ⟨w.heap.size, 0, none⟩), .pointer (some ⟨x.1.1, 0, none⟩), undef, .pointer (some ⟨L.qb h g s, 0, none⟩), .func (.func 96) #[] #[.pointer (some ⟨w.heap.size + 1, 0, none⟩)], .pointer (some ⟨x.1.1, 0, none⟩), undef, undef, undef, undef, undef, undef, undef, undef, undef, undef, undef, undef, undef, undef, undef, undef, undef, undef, undef, undef, undef, undef, undef, undef, undef, undef, undef, undef, undef, undef, undef, undef, undef, undef, undef, undef, undef, undef, undef, undef, undef, undef, undef, undef, undef, undef, undef, undef, undef], defers := [] })
    ?assign ?body ?done ?stop
  case assign =>
    intro l x W K hK
    gi_wp2
    exact hK
  case body =>
    rintro l pre x W ⟨⟨v, hv, hrow, _⟩, hB1⟩ hlt1
    have hbd := lvL_bd (pre.map fun z => z.1.2) (fun o ho => by obtain ⟨z, _, rfl⟩ := List.mem_map.1 ho; exact z.2.2.2.2)
    rw [List.length_map] at hbd
    have hsn : Hid (lvL ((pre ++ [x]).map fun z => z.1.2) = lvStep (lvL (pre.map fun z => z.1.2)) x.1.2) := hide (by rw [List.map_append]; exact lvL_snoc _ _)
    have hx : OdAt W x.1.1 x.1.2 := fun j v hv => ((x.2.1 j v hv).kep (Kep.of_below (S := non) hB1) (fun q => q))
    have o5 := (hx 5 _ rfl).cell
    have o6 := (hx 6 _ rfl).cell
    have bq := x.2.2.2.2
    have HGd := hide (fun W' (hB : Below w.heap.size w W') => ((x.2.1 6 _ rfl).kep (Kep.of_below (S := non) hB) (fun q => q)).cell)
    have hc := hv.cell
    have hsz := hB1.size
    obtain ⟨ra, rc, rfl⟩ := row_form hrow
    clear hx
    generalize lvL (pre.map fun z => z.1.2) = gs at *
    have hgl : gs.length ≤ 60 := by omega
    generalize x.1.1 = b at *
    generalize x.1.2 = z at *
    obtain ⟨V, hV, kV⟩ : ∃ V, V = W.drew ∧ Kep non W V := ⟨_, rfl, (Kep.refl _ _).drew⟩
    have o5V := kV.cell o5 (fun f => f)
    have o6V := kV.cell o6 (fun f => f)
    have hcV := kV.cell hc (fun f => f)
    have hvV : Boxed V w.heap.size 65 (.slice ra gs.length rc) := (kV.block _ hv.lt (fun f => f)).trans hv
    have hrV := ownsRow_kep hrow kV (fun _ _ f => f)
    have HV := hide hV
    have HKV := hide kV
    clear hV kV
    have HBd := hide hbd.1
    clear hbd
    rcases hgs : gs.getLast? with _ | lz
    · have HSt := hide (show lvStep gs z = gs ++ [⟨z.p, z.q, 1⟩] by unfold lvStep; rw [hgs, List.getLast?_eq_none_iff.1 hgs]; simp)
      have e0 : gs.length = 0 := by rw [List.getLast?_eq_none_iff.1 hgs]; rfl
      have HS0 := hide (And.intro hcV (And.intro hvV hrV))
      clear hrow hv hc hvV hrV hgs
      rw [e0] at hcV
      gi_wp2
      refine region_tail_in 16 (by kernel_rfl) (by kernel_rfl) (by kernel_rfl) V HV.out ?_
      intro Q' hQ'
      simp only [List.take_succ_cons, List.take_zero, List.drop_succ_cons, List.drop_zero]
      repeat still_step
      refine wpStill_nil ?_
      go_wp2
      clear hcV e0
      obtain ⟨hcV, hvV, hrV⟩ := HS0.out
      obtain ⟨V2, hV2, kV2⟩ : ∃ V2, V2 = V.drew ∧ Kep non V V2 := ⟨_, rfl, (Kep.refl _ _).drew⟩
      have o52 := kV2.cell o5V (fun f => f)
      have hc2 := kV2.cell hcV (fun f => f)
      have hv2 : Boxed V2 w.heap.size 65 (.slice ra gs.length rc) := (kV2.block _ hvV.lt (fun f => f)).trans hvV
      have hr2 := ownsRow_kep hrV kV2 (fun _ _ f => f)
      have HV2 := hide hV2
      have sz2 := kV2.size
      have szV := HKV.out.size
      clear hV2 kV2
      gi_wp2
      have hc2a := ((Kep.refl non V2).alloc (.cells #[.int .i64 z.p, .int .i64 0, .int .i64 0] 69)).cell hc2 (fun f => f)
      rename_i Kc hKc
      have HKc := hide hKc
      clear hKc
      apply meetsL (X := Kc) (F := fun g c w1 => Boxed (w1.setCell ⟨w.heap.size, 0, none⟩ (.slice (some ⟨g, 0, none⟩) (gs.length + 1) c)) w.heap.size 65 (.slice (some ⟨g, 0, none⟩) (gs.length + 1) c) ∧ (w1.setCell ⟨w.heap.size, 0, none⟩ (.slice (some ⟨g, 0, none⟩) (gs.length + 1) c)).ownsRow w.heap.size 69 3 (.slice (some ⟨g, 0, none⟩) (gs.length + 1) c) (gs.length + 1) (lvCells (gs ++ [⟨z.p, 0, 0⟩])) ∧ KeepsOthers V2 (w1.setCell ⟨w.heap.size, 0, none⟩ (.slice (some ⟨g, 0, none⟩) (gs.length + 1) c)) ∧ Below w.heap.size V2 (w1.setCell ⟨w.heap.size, 0, none⟩ (.slice (some ⟨g, 0, none⟩) (gs.length + 1) c))) (W := fun g c w1 => w1.setCell ⟨w.heap.size, 0, none⟩ (.slice (some ⟨g, 0, none⟩) (gs.length + 1) c))
      case ways =>
        intro hX
        refine region_any_in (by kernel_rfl) (by kernel_rfl) ?_
        intro Q' hQ' hPn
        rw [← HV2.out]
        refine wpAny_take (i := 1) (v := .pointer (some ⟨b, 0, none⟩)) rfl (by kernel_rfl) (by kernel_rfl) (by kernel_rfl) (fun c a w f => absurd f (hPn c _ _)) (Or.inl ⟨by rfl, fun w => by go_simp⟩) ?_
        refine wpAny_take (i := 2) (v := .pointer (some ⟨b, 0, none⟩)) rfl (by kernel_rfl) (by kernel_rfl) (by kernel_rfl) (fun c a w f => absurd f (hPn c _ _)) (Or.inl ⟨by rfl, fun w => by go_simp⟩) ?_
        refine wpAny_take (i := 3) (v := .pointer (some ⟨b, 5, none⟩)) rfl (by kernel_rfl) (by kernel_rfl) (by kernel_rfl) (fun c a w f => absurd f (hPn c _ _)) (Or.inl ⟨by rfl, fun w => by go_simp⟩) ?_
        refine wpAny_ready (rs := [0, 4]) (by kernel_rfl) (by simp) ?_
        refine AllReady.cons rfl (fun K hK => ?_) ?_
        · go_simp
          refine hK _ _ ?_
          clear hK K
          refine wpAny_ready (rs := [4]) (by kernel_rfl) (by simp) ?_
          refine AllReady.cons rfl (fun K hK => ?_) AllReady.nil
          go_simp
          refine hK _ _ ?_
          clear hK K
          refine wpAny_take (i := 5) (v := .agg #[.int .i64 z.p, .int .i64 0, .int .i64 0]) rfl (by kernel_rfl) (by kernel_rfl) (by kernel_rfl) (fun c a w f => absurd f (hPn c _ _)) (Or.inl ⟨by rfl, fun w => by go_simp⟩) ?_
          refine wpAny_ready (rs := [6]) (by kernel_rfl) (by simp) ?_
          refine AllReady.cons rfl (fun K hK => ?_) AllReady.nil
          go_simp
          refine hK _ _ ?_
          clear hK K
          refine wpAny_ready (rs := [7]) (by kernel_rfl) (by simp) ?_
          refine AllReady.cons rfl (fun K hK => ?_) AllReady.nil
          refine step_append_lies _ rfl _ _ _ rfl w.heap.size 69 i0 _ 3 24 Try.underlying65 hi hz0 hz1 hz2 rfl (by omega) (.slice ra gs.length rc) gs.length (lvCells gs) rfl (by exact hr2.alloc _) ⟨V2.heap.size, 0, none⟩ 1 1 (Lv.cells ⟨z.p, 0, 0⟩) rfl rfl (by exact news_of_last' #[_, _, _] 69 (by simp)) (Lv.oneCell' _) (by omega) (by simp only [maxLen]; omega) (by omega) (by simp; omega) (V2.heap.size + 1) (by simp) ?_
          intro gg cap w1 hown1 hgrow hat hlt1
          obtain ⟨hv1, hv3, hr3, hk3, hb3⟩ := hv2.appended (by decide) hr2 (by omega) (Nat.le_refl _) hown1 hgrow
          have hc1 := hv1.cell
          have hf1 := hv1.frozen
          go_simp
          refine hK _ _ ?_
          clear hK K
          refine wpAny_ready (rs := [8]) (by kernel_rfl) (by simp) ?_
          refine AllReady.cons rfl (fun K hK => ?_) AllReady.nil
          go_simp
          refine hK _ _ ?_
          clear hK K
          refine wpAny_done (by kernel_rfl) ?_ _
          exact hQ' _ _ (hX gg cap w1 ⟨hv3, by rw [lvCells_append]; simpa [lvCells] using hr3, hk3, hb3⟩)
        refine AllReady.cons rfl (fun K hK => ?_) AllReady.nil
        go_simp
        refine hK _ _ ?_
        clear hK K
        refine wpAny_take (i := 5) (v := .agg #[.int .i64 z.p, .int .i64 0, .int .i64 0]) rfl (by kernel_rfl) (by kernel_rfl) (by kernel_rfl) (fun c a w f => absurd f (hPn c _ _)) (Or.inl ⟨by rfl, fun w => by go_simp⟩) ?_
        refine wpAny_ready (rs := [0, 6]) (by kernel_rfl) (by simp) ?_
        refine AllReady.cons rfl (fun K hK => ?_) ?_
        · go_simp
          refine hK _ _ ?_
          clear hK K
          refine wpAny_ready (rs := [6]) (by kernel_rfl) (by simp) ?_
          refine AllReady.cons rfl (fun K hK => ?_) AllReady.nil
          go_simp
          refine hK _ _ ?_
          clear hK K
          refine wpAny_ready (rs := [7]) (by kernel_rfl) (by simp) ?_
          refine AllReady.cons rfl (fun K hK => ?_) AllReady.nil
          refine step_append_lies _ rfl _ _ _ rfl w.heap.size 69 i0 _ 3 24 Try.underlying65 hi hz0 hz1 hz2 rfl (by omega) (.slice ra gs.length rc) gs.length (lvCells gs) rfl (by exact hr2.alloc _) ⟨V2.heap.size, 0, none⟩ 1 1 (Lv.cells ⟨z.p, 0, 0⟩) rfl rfl (by exact news_of_last' #[_, _, _] 69 (by simp)) (Lv.oneCell' _) (by omega) (by simp only [maxLen]; omega) (by omega) (by simp; omega) (V2.heap.size + 1) (by simp) ?_
          intro gg cap w1 hown1 hgrow hat hlt1
          obtain ⟨hv1, hv3, hr3, hk3, hb3⟩ := hv2.appended (by decide) hr2 (by omega) (Nat.le_refl _) hown1 hgrow
          have hc1 := hv1.cell
          have hf1 := hv1.frozen
          go_simp
          refine hK _ _ ?_
          clear hK K
          refine wpAny_ready (rs := [8]) (by kernel_rfl) (by simp) ?_
          refine AllReady.cons rfl (fun K hK => ?_) AllReady.nil
          go_simp
          refine hK _ _ ?_
          clear hK K
          refine wpAny_done (by kernel_rfl) ?_ _
          exact hQ' _ _ (hX gg cap w1 ⟨hv3, by rw [lvCells_append]; simpa [lvCells] using hr3, hk3, hb3⟩)
        refine AllReady.cons rfl (fun K hK => ?_) AllReady.nil
        go_simp
        refine hK _ _ ?_
        clear hK K
        refine wpAny_ready (rs := [0]) (by kernel_rfl) (by simp) ?_
        refine AllReady.cons rfl (fun K hK => ?_) AllReady.nil
        go_simp
        refine hK _ _ ?_
        clear hK K
        refine wpAny_ready (rs := [7]) (by kernel_rfl) (by simp) ?_
        refine AllReady.cons rfl (fun K hK => ?_) AllReady.nil
        refine step_append_lies _ rfl _ _ _ rfl w.heap.size 69 i0 _ 3 24 Try.underlying65 hi hz0 hz1 hz2 rfl (by omega) (.slice ra gs.length rc) gs.length (lvCells gs) rfl (by exact hr2.alloc _) ⟨V2.heap.size, 0, none⟩ 1 1 (Lv.cells ⟨z.p, 0, 0⟩) rfl rfl (by exact news_of_last' #[_, _, _] 69 (by simp)) (Lv.oneCell' _) (by omega) (by simp only [maxLen]; omega) (by omega) (by simp; omega) (V2.heap.size + 1) (by simp) ?_
        intro gg cap w1 hown1 hgrow hat hlt1
        obtain ⟨hv1, hv3, hr3, hk3, hb3⟩ := hv2.appended (by decide) hr2 (by omega) (Nat.le_refl _) hown1 hgrow
        have hc1 := hv1.cell
        have hf1 := hv1.frozen
        go_simp
        refine hK _ _ ?_
        clear hK K
        refine wpAny_ready (rs := [8]) (by kernel_rfl) (by simp) ?_
        refine AllReady.cons rfl (fun K hK => ?_) AllReady.nil
        go_simp
        refine hK _ _ ?_
        clear hK K
        refine wpAny_done (by kernel_rfl) ?_ _
        exact hQ' _ _ (hX gg cap w1 ⟨hv3, by rw [lvCells_append]; simpa [lvCells] using hr3, hk3, hb3⟩)
      intro gb cap w1 ⟨hv5, hr5, ko5, kb5⟩
      refine HKc.out _ _ ?_
      have ko5 := ((show KeepsOthers W V by rw [HV.out]; exact KeepsOthers.drew _).trans (show KeepsOthers V V2 by rw [HV2.out]; exact KeepsOthers.drew _)).trans ko5
      have kb5 := ((show Below w.heap.size W V by rw [HV.out]; exact (Below.refl _ _).drew).trans (show Below w.heap.size V V2 by rw [HV2.out]; exact (Below.refl _ _).drew)).trans kb5
      clear hc2a hc2 hv2 hr2 o52 hcV hvV hrV o5V o6V o5 o6 HV HV2 HKV sz2 szV HKc HS0
      generalize w1.setCell ⟨w.heap.size, 0, none⟩ (.slice (some ⟨gb, 0, none⟩) (gs.length + 1) cap) = W5 at *
      obtain ⟨V6, hV6, k6⟩ : ∃ V6, V6 = W5.drew ∧ Kep non W5 V6 := ⟨_, rfl, (Kep.refl _ _).drew⟩
      have hv6 : Boxed V6 w.heap.size 65 (.slice (some ⟨gb, 0, none⟩) (gs.length + 1) cap) := (k6.block _ hv5.lt (fun f => f)).trans hv5
      have hr6 := ownsRow_kep hr5 k6 (fun _ _ f => f)
      have ko6 := ko5.trans (show KeepsOthers W5 V6 by rw [hV6]; exact KeepsOthers.drew _)
      have kb6 := kb5.trans (show Below w.heap.size W5 V6 by rw [hV6]; exact (Below.refl _ _).drew)
      have HFn := hide (lv_fin hv6 hr6 ko6 kb6 hB1 z.q 1)
      have c50 := hv5.cell
      have g1 : V6.cell? ⟨gb, gs.length * 3 + 1, none⟩ = some (.int .i64 (⟨z.p, 0, 0⟩ : Lv).q) := by rw [hr6.cellAt _ (by omega), lvCells_last _ _ 1 (by omega)]; rfl
      have g2 : V6.cell? ⟨gb, gs.length * 3 + 2, none⟩ = some (.int .i64 (⟨z.p, 0, 0⟩ : Lv).n) := by rw [hr6.cellAt _ (by omega), lvCells_last _ _ 2 (by omega)]; rfl
      have f1 := hr6.frozenAt (gs.length * 3 + 1)
      have f2 := hr6.frozenAt (gs.length * 3 + 2)
      have o66 := k6.cell (HGd.out W5 (hB1.trans kb5)) (fun f => f)
      have HV6 := hide hV6
      clear hv5 hr5 ko5 kb5 hv6 hr6 ko6 kb6 hV6 k6 HGd
      gi_wp2
      refine region_tail_in 11 (by kernel_rfl) (by kernel_rfl) (by kernel_rfl) V6 HV6.out ?_
      intro Q' hQ'
      simp only [List.take_succ_cons, List.take_zero, List.drop_succ_cons, List.drop_zero]
      repeat still_step
      refine wpStill_nil ?_
      go_wp2
      gi_wp2
      refine ⟨HFn.out.1.from _, HFn.out.2.1, ?_⟩
      show LvSt w (lvL ((pre ++ [x]).map fun z => z.1.2)) _
      rw [hsn.out, HSt.out]
      exact HFn.out.2.2
    · obtain ⟨gs0, hg0⟩ : ∃ gs0, gs = gs0 ++ [lz] := ⟨gs.dropLast, (dropLast_of hgs).symm⟩
      have el : gs.length = gs0.length + 1 := by rw [hg0]; simp
      obtain ⟨gb0, gc0, hv0, _, _⟩ := hrV.form (by omega)
      simp only [Value.slice.injEq, true_and] at hv0
      obtain ⟨rfl, rfl⟩ := hv0
      have gp : V.cell? ⟨gb0, gs0.length * 3, none⟩ = some (.int .i64 lz.p) := by
        have h1 := hrV.cellAt (gs0.length * 3 + 0) (by omega)
        rw [hg0, lvCells_last _ _ 0 (by omega)] at h1
        exact h1
      have ez : ((gs0.length : Int) + 1 == 0) = false := beq_eq_false_iff_ne.2 (by omega)
      have ew : IntKind.i64.wrap (gs0.length : Int) = (gs0.length : Int) := by rw [IntKind.wrap_i64]; omega
      have el1 : (gs0.length : Int) < (gs0.length : Int) + 1 := by omega
      have hzb := HBd.out lz (by rw [hg0]; simp)
      have HS0 := hide (And.intro hcV (And.intro hvV hrV))
      by_cases ep : lz.p = z.p
      · have HSt := hide (show lvStep gs z = gs0 ++ [⟨lz.p, lz.q + z.q, lz.n + 1⟩] by unfold lvStep; rw [hgs]; simp only; rw [if_pos ep, hg0]; simp)
        rw [ep] at gp
        have HEp := hide ep
        clear hrow hv hc hvV hrV hgs ep
        rw [el] at hcV
        gi_wp2
        refine region_tail_in 16 (by kernel_rfl) (by kernel_rfl) (by kernel_rfl) V HV.out ?_
        intro Q' hQ'
        simp only [List.take_succ_cons, List.take_zero, List.drop_succ_cons, List.drop_zero]
        repeat still_step
        refine wpStill_nil ?_
        go_wp2
        gi_wp2
        obtain ⟨_, hv5, hr5⟩ := HS0.out
        rw [el] at hv5 hr5
        rw [hg0] at hr5
        have ko5 := (show KeepsOthers W V by rw [HV.out]; exact KeepsOthers.drew _)
        have kb5 := (show Below w.heap.size W V by rw [HV.out]; exact (Below.refl _ _).drew)
        clear hcV o5V o6V o5 o6 HKV HS0 gp el hg0 ez HV
        obtain ⟨V6, hV6, k6⟩ : ∃ V6, V6 = V.drew ∧ Kep non V V6 := ⟨_, rfl, (Kep.refl _ _).drew⟩
        have hv6 : Boxed V6 w.heap.size 65 (.slice (some ⟨gb0, 0, none⟩) (gs0.length + 1) rc) := (k6.block _ hv5.lt (fun f => f)).trans hv5
        have hr6 := ownsRow_kep hr5 k6 (fun _ _ f => f)
        have ko6 := ko5.trans (show KeepsOthers V V6 by rw [hV6]; exact KeepsOthers.drew _)
        have kb6 := kb5.trans (show Below w.heap.size V V6 by rw [hV6]; exact (Below.refl _ _).drew)
        have HFn := hide (lv_fin hv6 hr6 ko6 kb6 hB1 (lz.q + z.q) (lz.n + 1))
        have c50 := hv5.cell
        have g1 : V6.cell? ⟨gb0, gs0.length * 3 + 1, none⟩ = some (.int .i64 lz.q) := by rw [hr6.cellAt _ (by omega), lvCells_last _ _ 1 (by omega)]; rfl
        have g2 : V6.cell? ⟨gb0, gs0.length * 3 + 2, none⟩ = some (.int .i64 lz.n) := by rw [hr6.cellAt _ (by omega), lvCells_last _ _ 2 (by omega)]; rfl
        have f1 := hr6.frozenAt (gs0.length * 3 + 1)
        have f2 := hr6.frozenAt (gs0.length * 3 + 2)
        have o66 := k6.cell (HGd.out V (hB1.trans kb5)) (fun f => f)
        have HV6 := hide hV6
        clear hv5 hr5 ko5 kb5 hv6 hr6 ko6 kb6 hV6 k6 HGd
        gi_wp2
        refine region_tail_in 11 (by kernel_rfl) (by kernel_rfl) (by kernel_rfl) V6 HV6.out ?_
        intro Q' hQ'
        simp only [List.take_succ_cons, List.take_zero, List.drop_succ_cons, List.drop_zero]
        repeat still_step
        refine wpStill_nil ?_
        go_wp2
        gi_wp2
        refine ⟨HFn.out.1.from _, HFn.out.2.1, ?_⟩
        show LvSt w (lvL ((pre ++ [x]).map fun z => z.1.2)) _
        rw [hsn.out, HSt.out]
        exact HFn.out.2.2
      · have HSt := hide (show lvStep gs z = gs ++ [⟨z.p, z.q, 1⟩] by unfold lvStep; rw [hgs]; simp only; rw [if_neg ep])
        have ep' : (lz.p != z.p) = true := by simpa using ep
        clear hrow hv hc hvV hrV hgs ep
        rw [el] at hcV
        gi_wp2
        refine region_tail_in 16 (by kernel_rfl) (by kernel_rfl) (by kernel_rfl) V HV.out ?_
        intro Q' hQ'
        simp only [List.take_succ_cons, List.take_zero, List.drop_succ_cons, List.drop_zero]
        repeat still_step
        refine wpStill_nil ?_
        go_wp2
        clear hcV el ep' gp hg0 hzb
        obtain ⟨hcV, hvV, hrV⟩ := HS0.out
        obtain ⟨V2, hV2, kV2⟩ : ∃ V2, V2 = V.drew ∧ Kep non V V2 := ⟨_, rfl, (Kep.refl _ _).drew⟩
        have o52 := kV2.cell o5V (fun f => f)
        have hc2 := kV2.cell hcV (fun f => f)
        have hv2 : Boxed V2 w.heap.size 65 (.slice (some ⟨gb0, 0, none⟩) gs.length rc) := (kV2.block _ hvV.lt (fun f => f)).trans hvV
        have hr2 := ownsRow_kep hrV kV2 (fun _ _ f => f)
        have HV2 := hide hV2
        have sz2 := kV2.size
        have szV := HKV.out.size
        clear hV2 kV2
        gi_wp2
        have hc2a := ((Kep.refl non V2).alloc (.cells #[.int .i64 z.p, .int .i64 0, .int .i64 0] 69)).cell hc2 (fun f => f)
        rename_i Kc hKc
        have HKc := hide hKc
        clear hKc
        apply meetsL (X := Kc) (F := fun g c w1 => Boxed (w1.setCell ⟨w.heap.size, 0, none⟩ (.slice (some ⟨g, 0, none⟩) (gs.length + 1) c)) w.heap.size 65 (.slice (some ⟨g, 0, none⟩) (gs.length + 1) c) ∧ (w1.setCell ⟨w.heap.size, 0, none⟩ (.slice (some ⟨g, 0, none⟩) (gs.length + 1) c)).ownsRow w.heap.size 69 3 (.slice (some ⟨g, 0, none⟩) (gs.length + 1) c) (gs.length + 1) (lvCells (gs ++ [⟨z.p, 0, 0⟩])) ∧ KeepsOthers V2 (w1.setCell ⟨w.heap.size, 0, none⟩ (.slice (some ⟨g, 0, none⟩) (gs.length + 1) c)) ∧ Below w.heap.size V2 (w1.setCell ⟨w.heap.size, 0, none⟩ (.slice (some ⟨g, 0, none⟩) (gs.length + 1) c))) (W := fun g c w1 => w1.setCell ⟨w.heap.size, 0, none⟩ (.slice (some ⟨g, 0, none⟩) (gs.length + 1) c))
        case ways =>
          intro hX
          refine region_any_in (by kernel_rfl) (by kernel_rfl) ?_
          intro Q' hQ' hPn
          rw [← HV2.out]
          refine wpAny_take (i := 1) (v := .pointer (some ⟨b, 0, none⟩)) rfl (by kernel_rfl) (by kernel_rfl) (by kernel_rfl) (fun c a w f => absurd f (hPn c _ _)) (Or.inl ⟨by rfl, fun w => by go_simp⟩) ?_
          refine wpAny_take (i := 2) (v := .pointer (some ⟨b, 0, none⟩)) rfl (by kernel_rfl) (by kernel_rfl) (by kernel_rfl) (fun c a w f => absurd f (hPn c _ _)) (Or.inl ⟨by rfl, fun w => by go_simp⟩) ?_
          refine wpAny_take (i := 3) (v := .pointer (some ⟨b, 5, none⟩)) rfl (by kernel_rfl) (by kernel_rfl) (by kernel_rfl) (fun c a w f => absurd f (hPn c _ _)) (Or.inl ⟨by rfl, fun w => by go_simp⟩) ?_
          refine wpAny_ready (rs := [0, 4]) (by kernel_rfl) (by simp) ?_
          refine AllReady.cons rfl (fun K hK => ?_) ?_
          · go_simp
            refine hK _ _ ?_
            clear hK K
            refine wpAny_ready (rs := [4]) (by kernel_rfl) (by simp) ?_
            refine AllReady.cons rfl (fun K hK => ?_) AllReady.nil
            go_simp
            refine hK _ _ ?_
            clear hK K
            refine wpAny_take (i := 5) (v := .agg #[.int .i64 z.p, .int .i64 0, .int .i64 0]) rfl (by kernel_rfl) (by kernel_rfl) (by kernel_rfl) (fun c a w f => absurd f (hPn c _ _)) (Or.inl ⟨by rfl, fun w => by go_simp⟩) ?_
            refine wpAny_ready (rs := [6]) (by kernel_rfl) (by simp) ?_
            refine AllReady.cons rfl (fun K hK => ?_) AllReady.nil
            go_simp
            refine hK _ _ ?_
            clear hK K
            refine wpAny_ready (rs := [7]) (by kernel_rfl) (by simp) ?_
            refine AllReady.cons rfl (fun K hK => ?_) AllReady.nil
            refine step_append_lies _ rfl _ _ _ rfl w.heap.size 69 i0 _ 3 24 Try.underlying65 hi hz0 hz1 hz2 rfl (by omega) (.slice (some ⟨gb0, 0, none⟩) gs.length rc) gs.length (lvCells gs) rfl (by exact hr2.alloc _) ⟨V2.heap.size, 0, none⟩ 1 1 (Lv.cells ⟨z.p, 0, 0⟩) rfl rfl (by exact news_of_last' #[_, _, _] 69 (by simp)) (Lv.oneCell' _) (by omega) (by simp only [maxLen]; omega) (by omega) (by simp; omega) (V2.heap.size + 1) (by simp) ?_
            intro gg cap w1 hown1 hgrow hat hlt1
            obtain ⟨hv1, hv3, hr3, hk3, hb3⟩ := hv2.appended (by decide) hr2 (by omega) (Nat.le_refl _) hown1 hgrow
            have hc1 := hv1.cell
            have hf1 := hv1.frozen
            go_simp
            refine hK _ _ ?_
            clear hK K
            refine wpAny_ready (rs := [8]) (by kernel_rfl) (by simp) ?_
            refine AllReady.cons rfl (fun K hK => ?_) AllReady.nil
            go_simp
            refine hK _ _ ?_
            clear hK K
            refine wpAny_done (by kernel_rfl) ?_ _
            exact hQ' _ _ (hX gg cap w1 ⟨hv3, by rw [lvCells_append]; simpa [lvCells] using hr3, hk3, hb3⟩)
          refine AllReady.cons rfl (fun K hK => ?_) AllReady.nil
          go_simp
          refine hK _ _ ?_
          clear hK K
          refine wpAny_take (i := 5) (v := .agg #[.int .i64 z.p, .int .i64 0, .int .i64 0]) rfl (by kernel_rfl) (by kernel_rfl) (by kernel_rfl) (fun c a w f => absurd f (hPn c _ _)) (Or.inl ⟨by rfl, fun w => by go_simp⟩) ?_
          refine wpAny_ready (rs := [0, 6]) (by kernel_rfl) (by simp) ?_
          refine AllReady.cons rfl (fun K hK => ?_) ?_
          · go_simp
            refine hK _ _ ?_
            clear hK K
            refine wpAny_ready (rs := [6]) (by kernel_rfl) (by simp) ?_
            refine AllReady.cons rfl (fun K hK => ?_) AllReady.nil
            go_simp
            refine hK _ _ ?_
            clear hK K
            refine wpAny_ready (rs := [7]) (by kernel_rfl) (by simp) ?_
            refine AllReady.cons rfl (fun K hK => ?_) AllReady.nil
            refine step_append_lies _ rfl _ _ _ rfl w.heap.size 69 i0 _ 3 24 Try.underlying65 hi hz0 hz1 hz2 rfl (by omega) (.slice (some ⟨gb0, 0, none⟩) gs.length rc) gs.length (lvCells gs) rfl (by exact hr2.alloc _) ⟨V2.heap.size, 0, none⟩ 1 1 (Lv.cells ⟨z.p, 0, 0⟩) rfl rfl (by exact news_of_last' #[_, _, _] 69 (by simp)) (Lv.oneCell' _) (by omega) (by simp only [maxLen]; omega) (by omega) (by simp; omega) (V2.heap.size + 1) (by simp) ?_
            intro gg cap w1 hown1 hgrow hat hlt1
            obtain ⟨hv1, hv3, hr3, hk3, hb3⟩ := hv2.appended (by decide) hr2 (by omega) (Nat.le_refl _) hown1 hgrow
            have hc1 := hv1.cell
            have hf1 := hv1.frozen
            go_simp
            refine hK _ _ ?_
            clear hK K
            refine wpAny_ready (rs := [8]) (by kernel_rfl) (by simp) ?_
            refine AllReady.cons rfl (fun K hK => ?_) AllReady.nil
            go_simp
            refine hK _ _ ?_
            clear hK K
            refine wpAny_done (by kernel_rfl) ?_ _
            exact hQ' _ _ (hX gg cap w1 ⟨hv3, by rw [lvCells_append]; simpa [lvCells] using hr3, hk3, hb3⟩)
          refine AllReady.cons rfl (fun K hK => ?_) AllReady.nil
          go_simp
          refine hK _ _ ?_
          clear hK K
          refine wpAny_ready (rs := [0]) (by kernel_rfl) (by simp) ?_
          refine AllReady.cons rfl (fun K hK => ?_) AllReady.nil
          go_simp
          refine hK _ _ ?_
          clear hK K
          refine wpAny_ready (rs := [7]) (by kernel_rfl) (by simp) ?_
          refine AllReady.cons rfl (fun K hK => ?_) AllReady.nil
          refine step_append_lies _ rfl _ _ _ rfl w.heap.size 69 i0 _ 3 24 Try.underlying65 hi hz0 hz1 hz2 rfl (by omega) (.slice (some ⟨gb0, 0, none⟩) gs.length rc) gs.length (lvCells gs) rfl (by exact hr2.alloc _) ⟨V2.heap.size, 0, none⟩ 1 1 (Lv.cells ⟨z.p, 0, 0⟩) rfl rfl (by exact news_of_last' #[_, _, _] 69 (by simp)) (Lv.oneCell' _) (by omega) (by simp only [maxLen]; omega) (by omega) (by simp; omega) (V2.heap.size + 1) (by simp) ?_
          intro gg cap w1 hown1 hgrow hat hlt1
          obtain ⟨hv1, hv3, hr3, hk3, hb3⟩ := hv2.appended (by decide) hr2 (by omega) (Nat.le_refl _) hown1 hgrow
          have hc1 := hv1.cell
          have hf1 := hv1.frozen
          go_simp
          refine hK _ _ ?_
          clear hK K
          refine wpAny_ready (rs := [8]) (by kernel_rfl) (by simp) ?_
          refine AllReady.cons rfl (fun K hK => ?_) AllReady.nil
          go_simp
          refine hK _ _ ?_
          clear hK K
          refine wpAny_done (by kernel_rfl) ?_ _
          exact hQ' _ _ (hX gg cap w1 ⟨hv3, by rw [lvCells_append]; simpa [lvCells] using hr3, hk3, hb3⟩)
        intro gb cap w1 ⟨hv5, hr5, ko5, kb5⟩
        refine HKc.out _ _ ?_
        have ko5 := ((show KeepsOthers W V by rw [HV.out]; exact KeepsOthers.drew _).trans (show KeepsOthers V V2 by rw [HV2.out]; exact KeepsOthers.drew _)).trans ko5
        have kb5 := ((show Below w.heap.size W V by rw [HV.out]; exact (Below.refl _ _).drew).trans (show Below w.heap.size V V2 by rw [HV2.out]; exact (Below.refl _ _).drew)).trans kb5
        clear hc2a hc2 hv2 hr2 o52 hcV hvV hrV o5V o6V o5 o6 HV HV2 HKV sz2 szV HKc HS0
        generalize w1.setCell ⟨w.heap.size, 0, none⟩ (.slice (some ⟨gb, 0, none⟩) (gs.length + 1) cap) = W5 at *
        obtain ⟨V6, hV6, k6⟩ : ∃ V6, V6 = W5.drew ∧ Kep non W5 V6 := ⟨_, rfl, (Kep.refl _ _).drew⟩
        have hv6 : Boxed V6 w.heap.size 65 (.slice (some ⟨gb, 0, none⟩) (gs.length + 1) cap) := (k6.block _ hv5.lt (fun f => f)).trans hv5
        have hr6 := ownsRow_kep hr5 k6 (fun _ _ f => f)
        have ko6 := ko5.trans (show KeepsOthers W5 V6 by rw [hV6]; exact KeepsOthers.drew _)
        have kb6 := kb5.trans (show Below w.heap.size W5 V6 by rw [hV6]; exact (Below.refl _ _).drew)
        have HFn := hide (lv_fin hv6 hr6 ko6 kb6 hB1 z.q 1)
        have c50 := hv5.cell
        have g1 : V6.cell? ⟨gb, gs.length * 3 + 1, none⟩ = some (.int .i64 (⟨z.p, 0, 0⟩ : Lv).q) := by rw [hr6.cellAt _ (by omega), lvCells_last _ _ 1 (by omega)]; rfl
        have g2 : V6.cell? ⟨gb, gs.length * 3 + 2, none⟩ = some (.int .i64 (⟨z.p, 0, 0⟩ : Lv).n) := by rw [hr6.cellAt _ (by omega), lvCells_last _ _ 2 (by omega)]; rfl
        have f1 := hr6.frozenAt (gs.length * 3 + 1)
        have f2 := hr6.frozenAt (gs.length * 3 + 2)
        have o66 := k6.cell (HGd.out W5 (hB1.trans kb5)) (fun f => f)
        have HV6 := hide hV6
        clear hv5 hr5 ko5 kb5 hv6 hr6 ko6 kb6 hV6 k6 HGd
        gi_wp2
        refine region_tail_in 11 (by kernel_rfl) (by kernel_rfl) (by kernel_rfl) V6 HV6.out ?_
        intro Q' hQ'
        simp only [List.take_succ_cons, List.take_zero, List.drop_succ_cons, List.drop_zero]
        repeat still_step
        refine wpStill_nil ?_
        go_wp2
        gi_wp2
        refine ⟨HFn.out.1.from _, HFn.out.2.1, ?_⟩
        show LvSt w (lvL ((pre ++ [x]).map fun z => z.1.2)) _
        rw [hsn.out, HSt.out]
        exact HFn.out.2.2
  case done =>
    rintro D ys W hD rfl ⟨⟨v, hv, hrow, _⟩, hB1⟩ hK
    have hc := hv.cell
    have HZ := hide (congrArg lvL HZ2.out)
    go_wp2
    refine ⟨by simp, .inl ⟨_, _, rfl, run_takeDeferred hK, ?_⟩⟩
    rw [← HZ.out]
    exact ⟨_, results_tmp rfl _ _ _, v, rfl, ownsRow_putObj hrow _ hK rfl, hB1.trans (belowK_b (w := w) (Nat.le_refl _) W D _ _ (by omega) hK rfl rfl), by have := hv.lt; simpa using this⟩
  case stop =>
    rintro D c pre W _ _ h _
    exact h.elim

end

section
open Go.RowKit Go.Sort

/-- Book: two rows of levels, new ones, apart -/
def BookPost (w : World) (m : Mt) (h g : Nat) (e : Ending) (w' : World) : Prop :=
  ∃ v u B, e = .returned (.tuple #[v, u, .int .i64 0]) ∧ w'.ownsRow w.heap.size 69 3 v (lvL (m.bk h g 0)).length (lvCells (lvL (m.bk h g 0))) ∧ w'.ownsRow B 69 3 u (lvL (m.bk h g 1)).length (lvCells (lvL (m.bk h g 1))) ∧ w.heap.size < B ∧ B < w'.heap.size ∧ (∀ b, v.ownBlock = some b → b < B) ∧ Below w.heap.size w w'

set_option maxRecDepth 100000 in
set_option maxHeartbeats 4000000 in
theorem book_any (w : World) (L : PL) (m : Mt) (N : Int) (R : PRep w L m) (ok : m.Ok N) (h g : Nat) (hh : h < m.H) (hg : g < m.G) :
    Calls Try.prog 23 #[.pointer (some ⟨L.x, 0, none⟩), .int .i64 h, .int .i64 g] w (BookPost w m h g) := by
  have HCk := hide (show Calls Try.prog 50 #[.pointer (some ⟨L.x, 0, none⟩), .int .i64 h, .int .i64 g] w fun e w' => e = .returned (.int .i64 0) ∧ w = w' from by
    have := checkBook_any w L m N h g R ok
    have e : bookE m h g = 0 := by
      unfold bookE
      rw [if_pos ⟨by omega, by omega⟩, if_pos ⟨by omega, by omega⟩]
    rw [e] at this
    exact this.mono fun e w' h => ⟨h.1, h.2.symm⟩)
  have HL := hide (fun s (q : at3 m h g s) W (S : Below w.heap.size w W) => levels_any W L m N (R.bel S) ok h g s q)
  have HC := hide (show ∀ W, Below w.heap.size w W → W.cell? ⟨L.gb h, g * 5, none⟩ = some (.pointer (some ⟨L.qb h g 0, 0, none⟩)) ∧ W.cell? ⟨L.gb h, g * 5 + 1, none⟩ = some (.pointer (some ⟨L.qb h g 1, 0, none⟩)) from fun W S =>
    ⟨((R.bel S).sd h g 0 ⟨hh, hg, by decide⟩).cell, ((R.bel S).sd h g 1 ⟨hh, hg, by decide⟩).cell⟩)
  have HL0 := hide (HL.out 0 ⟨hh, hg, by decide⟩)
  have HL1 := hide (HL.out 1 ⟨hh, hg, by decide⟩)
  have c4 := R.cB.cell
  have cb := R.bks h hh
  have hh' : (h : Int) < (m.H : Int) := by omega
  have hg' : (g : Int) < (m.G : Int) := by omega
  obtain ⟨s0, s1⟩ := HC.out w (Below.refl _ _)
  clear R ok HL
  go_enter Try.func23, Try.ntmps23
  go_wp2_with (go_at_call 50; refine HCk.out.mono ?_; rintro e w' ⟨rfl, rfl⟩)
  clear HCk
  have HB0 := hide (show Below w.heap.size w w.drew from (Below.refl _ _).drew)
  refine wp_region_any (by kernel_rfl) ?_
  change wpAny _ _ _ _ _ _ _ (World.drew _)
  refine wpAny_take (i := 0) (v := .pointer (some ⟨L.gb h, g * 5, none⟩)) rfl (by kernel_rfl) (by kernel_rfl) (by kernel_rfl) (fun _ _ _ h => h) (Or.inl ⟨by rfl, fun w => by go_simp⟩) ?_
  refine wpAny_take (i := 1) (v := .pointer (some ⟨L.gb h, g * 5, none⟩)) rfl (by kernel_rfl) (by kernel_rfl) (by kernel_rfl) (fun _ _ _ h => h) (Or.inl ⟨by rfl, fun w => by go_simp⟩) ?_
  refine wpAny_take (i := 2) (v := .pointer (some ⟨L.gb h, g * 5, none⟩)) rfl (by kernel_rfl) (by kernel_rfl) (by kernel_rfl) (fun _ _ _ h => h) (Or.inl ⟨by rfl, fun w => by go_simp⟩) ?_
  refine wpAny_take (i := 3) (v := .pointer (some ⟨L.gb h, g * 5, none⟩)) rfl (by kernel_rfl) (by kernel_rfl) (by kernel_rfl) (fun _ _ _ h => h) (Or.inl ⟨by rfl, fun w => by go_simp⟩) ?_
  refine wpAny_take (i := 6) (v := .pointer (some ⟨L.gb h, g * 5, none⟩)) rfl (by kernel_rfl) (by kernel_rfl) (by kernel_rfl) (fun _ _ _ h => h) (Or.inl ⟨by rfl, fun w => by go_simp⟩) ?_
  refine wpAny_take (i := 7) (v := .pointer (some ⟨L.gb h, g * 5, none⟩)) rfl (by kernel_rfl) (by kernel_rfl) (by kernel_rfl) (fun _ _ _ h => h) (Or.inl ⟨by rfl, fun w => by go_simp⟩) ?_
  refine wpAny_take (i := 8) (v := .pointer (some ⟨L.gb h, g * 5, none⟩)) rfl (by kernel_rfl) (by kernel_rfl) (by kernel_rfl) (fun _ _ _ h => h) (Or.inl ⟨by rfl, fun w => by go_simp⟩) ?_
  refine wpAny_take (i := 9) (v := .pointer (some ⟨L.gb h, g * 5 + 1, none⟩)) rfl (by kernel_rfl) (by kernel_rfl) (by kernel_rfl) (fun _ _ _ h => h) (Or.inl ⟨by rfl, fun w => by go_simp⟩) ?_
  refine wpAny_ready (rs := [4, 10]) (by kernel_rfl) (by simp) ?_
  refine AllReady.cons rfl (fun K hK => ?_) ?_
  · go_simp
    refine hK _ _ ?_
    clear hK K
    refine wpAny_ready (rs := [5, 10]) (by kernel_rfl) (by simp) ?_
    refine AllReady.cons rfl (fun K hK => ?_) ?_
    · go_simp
      refine (HL0.out _ HB0.out).mono ?_
      rintro e w1 ⟨v, rfl, r1, b1, z1'⟩
      have hB1 : Below w.heap.size w w1 := HB0.out.trans b1
      have s2 := (HC.out _ hB1).2
      refine hK _ _ ?_
      clear hK K
      refine wpAny_ready (rs := [10]) (by kernel_rfl) (by simp) ?_
      refine AllReady.cons rfl (fun K hK => ?_) AllReady.nil
      go_simp
      refine hK _ _ ?_
      clear hK K
      refine wpAny_ready (rs := [11]) (by kernel_rfl) (by simp) ?_
      refine AllReady.cons rfl (fun K hK => ?_) AllReady.nil
      go_simp
      refine (HL1.out _ hB1).mono ?_
      rintro e w2 ⟨u, rfl, r2, b2, z2'⟩
      refine hK _ _ ?_
      clear hK K
      refine wpAny_ready (rs := [12]) (by kernel_rfl) (by simp) ?_
      refine AllReady.cons rfl (fun K hK => ?_) AllReady.nil
      go_simp
      refine hK _ _ ?_
      clear hK K
      refine wpAny_ready (rs := [13]) (by kernel_rfl) (by simp) ?_
      refine AllReady.cons rfl (fun K hK => ?_) AllReady.nil
      go_simp
      refine hK _ _ ?_
      clear hK K
      refine wpAny_ready (rs := [14]) (by kernel_rfl) (by simp) ?_
      refine AllReady.cons rfl (fun K hK => ?_) AllReady.nil
      go_simp
      refine hK _ _ ?_
      clear hK K
      refine wpAny_done (by kernel_rfl) ?_ _
      have l1 := fun b hb => (r1.lt b hb).2
      have z1 := hB1.size
      have HP := hide (show BookPost w m h g (.returned (.tuple #[v, u, .int .i64 0])) w2 from ⟨v, u, w1.heap.size, rfl, ownsRow_kep r1 (Kep.of_below (S := non) b2) (fun _ _ f => f), r2, by rw [World.size_drew] at z1'; exact z1', z2', l1, hB1.trans (b2.mono z1)⟩)
      clear r1 r2 b1 b2 hB1 HL0 HL1 HC s2
      go_wp2
      exact bodyPost_ret (v := .tuple #[v, u, .int .i64 0]) (by simp [results, Try.results23, go_sem]) rfl HP.out
    refine AllReady.cons rfl (fun K hK => ?_) AllReady.nil
    go_simp
    refine hK _ _ ?_
    clear hK K
    refine wpAny_ready (rs := [5]) (by kernel_rfl) (by simp) ?_
    refine AllReady.cons rfl (fun K hK => ?_) AllReady.nil
    go_simp
    refine (HL0.out _ HB0.out).mono ?_
    rintro e w1 ⟨v, rfl, r1, b1, z1'⟩
    have hB1 : Below w.heap.size w w1 := HB0.out.trans b1
    have s2 := (HC.out _ hB1).2
    refine hK _ _ ?_
    clear hK K
    refine wpAny_ready (rs := [11]) (by kernel_rfl) (by simp) ?_
    refine AllReady.cons rfl (fun K hK => ?_) AllReady.nil
    go_simp
    refine (HL1.out _ hB1).mono ?_
    rintro e w2 ⟨u, rfl, r2, b2, z2'⟩
    refine hK _ _ ?_
    clear hK K
    refine wpAny_ready (rs := [12]) (by kernel_rfl) (by simp) ?_
    refine AllReady.cons rfl (fun K hK => ?_) AllReady.nil
    go_simp
    refine hK _ _ ?_
    clear hK K
    refine wpAny_ready (rs := [13]) (by kernel_rfl) (by simp) ?_
    refine AllReady.cons rfl (fun K hK => ?_) AllReady.nil
    go_simp
    refine hK _ _ ?_
    clear hK K
    refine wpAny_ready (rs := [14]) (by kernel_rfl) (by simp) ?_
    refine AllReady.cons rfl (fun K hK => ?_) AllReady.nil
    go_simp
    refine hK _ _ ?_
    clear hK K
    refine wpAny_done (by kernel_rfl) ?_ _
    have l1 := fun b hb => (r1.lt b hb).2
    have z1 := hB1.size
    have HP := hide (show BookPost w m h g (.returned (.tuple #[v, u, .int .i64 0])) w2 from ⟨v, u, w1.heap.size, rfl, ownsRow_kep r1 (Kep.of_below (S := non) b2) (fun _ _ f => f), r2, by rw [World.size_drew] at z1'; exact z1', z2', l1, hB1.trans (b2.mono z1)⟩)
    clear r1 r2 b1 b2 hB1 HL0 HL1 HC s2
    go_wp2
    exact bodyPost_ret (v := .tuple #[v, u, .int .i64 0]) (by simp [results, Try.results23, go_sem]) rfl HP.out
  refine AllReady.cons rfl (fun K hK => ?_) AllReady.nil
  go_simp
  refine hK _ _ ?_
  clear hK K
  refine wpAny_ready (rs := [4]) (by kernel_rfl) (by simp) ?_
  refine AllReady.cons rfl (fun K hK => ?_) AllReady.nil
  go_simp
  refine hK _ _ ?_
  clear hK K
  refine wpAny_ready (rs := [5]) (by kernel_rfl) (by simp) ?_
  refine AllReady.cons rfl (fun K hK => ?_) AllReady.nil
  go_simp
  refine (HL0.out _ HB0.out).mono ?_
  rintro e w1 ⟨v, rfl, r1, b1, z1'⟩
  have hB1 : Below w.heap.size w w1 := HB0.out.trans b1
  have s2 := (HC.out _ hB1).2
  refine hK _ _ ?_
  clear hK K
  refine wpAny_ready (rs := [11]) (by kernel_rfl) (by simp) ?_
  refine AllReady.cons rfl (fun K hK => ?_) AllReady.nil
  go_simp
  refine (HL1.out _ hB1).mono ?_
  rintro e w2 ⟨u, rfl, r2, b2, z2'⟩
  refine hK _ _ ?_
  clear hK K
  refine wpAny_ready (rs := [12]) (by kernel_rfl) (by simp) ?_
  refine AllReady.cons rfl (fun K hK => ?_) AllReady.nil
  go_simp
  refine hK _ _ ?_
  clear hK K
  refine wpAny_ready (rs := [13]) (by kernel_rfl) (by simp) ?_
  refine AllReady.cons rfl (fun K hK => ?_) AllReady.nil
  go_simp
  refine hK _ _ ?_
  clear hK K
  refine wpAny_ready (rs := [14]) (by kernel_rfl) (by simp) ?_
  refine AllReady.cons rfl (fun K hK => ?_) AllReady.nil
  go_simp
  refine hK _ _ ?_
  clear hK K
  refine wpAny_done (by kernel_rfl) ?_ _
  have l1 := fun b hb => (r1.lt b hb).2
  have z1 := hB1.size
  have HP := hide (show BookPost w m h g (.returned (.tuple #[v, u, .int .i64 0])) w2 from ⟨v, u, w1.heap.size, rfl, ownsRow_kep r1 (Kep.of_below (S := non) b2) (fun _ _ f => f), r2, by rw [World.size_drew] at z1'; exact z1', z2', l1, hB1.trans (b2.mono z1)⟩)
  clear r1 r2 b1 b2 hB1 HL0 HL1 HC s2
  go_wp2
  exact bodyPost_ret (v := .tuple #[v, u, .int .i64 0]) (by simp [results, Try.results23, go_sem]) rfl HP.out

end

section
open Go.RowKit Go.Sort

theorem erase_putAt {α : Type} (l : List α) (k : Nat) (x : α) (h : k ≤ l.length) : (putAt l k x).eraseIdx k = l := by
  unfold putAt
  have e : (l.take k).length = k := by rw [List.length_take]; omega
  rw [List.eraseIdx_append_of_length_le (by omega), e, Nat.sub_self, List.eraseIdx_cons_zero, List.take_append_drop]

/-- the market, one number further -/
def Mt.up (m : Mt) : Mt := { m with nu := m.nu + 1 }

theorem setBk_self (m : Mt) (h g s : Nat) : m.setBk h g s (m.bk h g s) = m := by
  unfold Mt.setBk
  have : (fun a b c => if a = h ∧ b = g ∧ c = s then m.bk h g s else m.bk a b c) = m.bk := by
    funext a b c
    split
    · rename_i e; rw [e.1, e.2.1, e.2.2]
    · rfl
  rw [this]
theorem setBk_two (m : Mt) (h g s : Nat) (a b : List Od) : (m.setBk h g s a).setBk h g s b = m.setBk h g s b := by
  unfold Mt.setBk
  have : (fun x y z => if x = h ∧ y = g ∧ z = s then b else (if x = h ∧ y = g ∧ z = s then a else m.bk x y z)) = fun x y z => if x = h ∧ y = g ∧ z = s then b else m.bk x y z := by
    funext x y z
    split <;> rfl
  exact congrArg (fun f => ({ m with bk := f } : Mt)) this

theorem release_hold (m : Mt) {o : Od} {h g s : Nat} (eh : o.h = h) (eg : o.g = g) (es : o.s = s) (s2 : s < 2) : releaseM (holdM m o) o.t.toNat h g s o = m := by
  have e1 : o.h.toNat = h := by omega
  have e2 : o.g.toNat = g := by omega
  unfold releaseM holdM
  rcases s with _ | _ | s
  · rw [if_pos rfl, if_pos (by omega)]
    unfold Mt.setMo
    have : (fun i => if i = o.t.toNat then (if o.t.toNat = o.t.toNat then m.mo o.t.toNat - o.p * o.q else m.mo o.t.toNat) + o.p * o.q else (if i = o.t.toNat then m.mo o.t.toNat - o.p * o.q else m.mo i)) = m.mo := by
      funext i
      by_cases e : i = o.t.toNat
      · subst e; simp
      · simp [e]
    exact congrArg (fun f => ({ m with mo := f } : Mt)) this
  · rw [if_neg (by decide), if_neg (by omega), e1, e2]
    unfold Mt.setPc
    have : (fun i j k => if i = o.t.toNat ∧ j = h ∧ k = g then (if o.t.toNat = o.t.toNat ∧ h = h ∧ g = g then m.pc o.t.toNat h g - o.q else m.pc o.t.toNat h g) + o.q else (if i = o.t.toNat ∧ j = h ∧ k = g then m.pc o.t.toNat h g - o.q else m.pc i j k)) = m.pc := by
      funext i j k
      by_cases e : i = o.t.toNat ∧ j = h ∧ k = g
      · obtain ⟨rfl, rfl, rfl⟩ := e; simp
      · simp [e]
    exact congrArg (fun f => ({ m with pc := f } : Mt)) this
  · omega

theorem metL_no {o : Od} : ∀ l : List Od, (∀ z ∈ l, 1 ≤ z.q) → metL o l ≤ 0 → ∀ z ∈ l, ¬ (z.t ≠ o.t ∧ pfits o z = true)
  | [], _, _ => fun z hz => by cases hz
  | y :: r, hq, hm => fun z hz => by
    have nn : ∀ l : List Od, (∀ z ∈ l, 1 ≤ z.q) → 0 ≤ metL o l := fun l => by
      induction l with
      | nil => intro _; simp [metL]
      | cons a t ih =>
        intro h
        have h1 := ih fun z hz => h z (List.mem_cons_of_mem _ hz)
        have h2 := h a (List.mem_cons_self ..)
        simp only [metL]
        split <;> omega
    have h1 := nn r fun z hz => hq z (List.mem_cons_of_mem _ hz)
    have h2 := hq y (List.mem_cons_self ..)
    simp only [metL] at hm
    have h3 : ¬ (y.t ≠ o.t ∧ pfits o y = true) := fun f => by rw [if_pos f] at hm; omega
    rw [if_neg h3] at hm
    rcases List.mem_cons.1 hz with rfl | hz
    · exact h3
    · exact metL_no r (fun z hz => hq z (List.mem_cons_of_mem _ hz)) (by omega) z hz

theorem placeE_took {m : Mt} {x : Od} (hE : placeE m x = 0) : (okI m.T x.t ∧ okI m.H x.h ∧ okI m.G x.g ∧ m.all.length < 60) ∧ (x.w = 3 → m.met x ≤ 0) := by
  unfold placeE at hE
  (repeat' split at hE) <;> first | omega | exact ⟨⟨Decidable.not_not.1 (by assumption), Decidable.not_not.1 (by assumption), Decidable.not_not.1 (by assumption), by omega⟩, fun hw => by omega⟩

/-- an order that may not meet, was taken, and whose own trader has none in its way -/
structure Lone (m : Mt) (x : Od) (h g s : Nat) : Prop where
  q : at3 m h g s
  eh : x.h = h
  eg : x.g = g
  es : x.s = s
  ok : placeE m x = 0
  w : x.w = 3
  pq : 1 ≤ x.q ∧ x.q ≤ 300
  own : ∀ z ∈ m.bk h g (otherS s), z.t = x.t → pfits x z = false

section
variable {m : Mt} {x : Od} {h g s : Nat} {N : Int}

theorem Lone.nofit (L : Lone m x h g s) (I : m.Inv N) : ∀ z ∈ m.bk h g (otherS s), pfits x z = false := fun z hz => by
  have hs' : otherS s < 2 := by unfold otherS; split <;> omega
  by_cases e : z.t = x.t
  · exact L.own z hz e
  · have hm := (placeE_took L.ok).2 L.w
    unfold Mt.met at hm
    rw [show x.h.toNat = h by have := L.eh; omega, show x.g.toNat = g by have := L.eg; omega, show x.s.toNat = s by have := L.es; omega] at hm
    have := metL_no _ (fun z hz => (I.od h g (otherS s) z L.q.1 L.q.2.1 hs' hz).q.1) hm z hz
    cases hp : pfits x z with
    | false => rfl
    | true => exact absurd ⟨e, hp⟩ this

theorem Lone.placed (L : Lone m x h g s) (I : m.Inv N) : placed m x = (holdM m.up { x with id := m.nu + 1 }, { x with id := m.nu + 1 }, []) := by
  unfold Go.Proofs.Ytcfoobhihhndjaa.placed
  rw [show x.h.toNat = h by have := L.eh; omega, show x.g.toNat = g by have := L.eg; omega, show x.s.toNat = s by have := L.es; omega]
  have hn := L.nofit I
  cases e : m.bk h g (otherS s) with
  | nil => rfl
  | cons z r =>
    unfold matchM
    have hq := L.pq.1
    rw [if_neg (by show ¬ x.q ≤ 0; omega), if_pos (by have := hn z (by rw [e]; exact List.mem_cons_self ..); exact this)]
    rfl

theorem Lone.told (L : Lone m x h g s) (I : m.Inv N) : placeI m x = m.nu + 1 ∧ placeT m x = [] := by
  unfold placeI placeT
  rw [if_pos L.ok, if_pos L.ok, L.placed I]
  exact ⟨rfl, rfl⟩

theorem Lone.form (L : Lone m x h g s) (I : m.Inv N) : ∃ k, k ≤ (m.bk h g s).length ∧ placeM m x = (holdM m.up { x with id := m.nu + 1 }).setBk h g s (putAt (m.bk h g s) k { x with id := m.nu + 1 }) := by
  refine ⟨slot (ahAt (m.bk h g s) s { x with id := m.nu + 1 }) (m.bk h g s).length, slot_le _ _, ?_⟩
  unfold placeM
  rw [if_pos L.ok, L.placed I]
  unfold settleM
  have hq := L.pq.1
  have hw := L.w
  rw [if_pos (by exact ⟨by show 0 < x.q; omega, .inr hw⟩)]
  unfold waitM
  have eb : (holdM m.up { x with id := m.nu + 1 }).bk = m.bk := bk_hold _ _
  simp only [eb]
  rw [show x.h.toNat = h by have := L.eh; omega, show x.g.toNat = g by have := L.eg; omega, show x.s.toNat = s by have := L.es; omega]

theorem Lone.back (L : Lone m x h g s) (I : m.Inv N) : ∃ k, Spot (placeM m x) x.t (m.nu + 1) h g s k { x with id := m.nu + 1 } ∧ backM (placeM m x) h g s k { x with id := m.nu + 1 } = m.up ∧ ∀ t' h' g' s' i o, Spot (placeM m x) t' (m.nu + 1) h' g' s' i o → h' = h ∧ g' = g ∧ s' = s ∧ i = k ∧ o = { x with id := m.nu + 1 } := by
  obtain ⟨k, hk, e⟩ := L.form I
  have eb : (holdM m.up { x with id := m.nu + 1 }).bk = m.bk := bk_hold _ _
  have dm : (placeM m x).T = m.T ∧ (placeM m x).G = m.G ∧ (placeM m x).H = m.H := by
    have := Moves.dims (m := m) (m' := placeM m x) (.inr (.inr (.inr (.inr (.inr (.inr (.inr (.inr (.inr ⟨x, rfl⟩)))))))))
    exact ⟨this.T, this.G, this.H⟩
  have e1 : (placeM m x).bk h g s = putAt (m.bk h g s) k { x with id := m.nu + 1 } := by rw [e]; simp [Mt.setBk]
  have e2 : ∀ a b c, ¬ (a = h ∧ b = g ∧ c = s) → (placeM m x).bk a b c = m.bk a b c := fun a b c f => by rw [e]; simp [Mt.setBk, f, eb]
  have q' : at3 (placeM m x) h g s := ⟨by rw [dm.2.2]; exact L.q.1, by rw [dm.2.1]; exact L.q.2.1, L.q.2.2⟩
  refine ⟨k, ⟨q', ?_, rfl, rfl⟩, ?_, fun t' h' g' s' i o S => ?_⟩
  · rw [e1, putAt_get _ _ _ _ hk, if_neg (by omega), if_pos rfl]
  · unfold backM
    rw [e1, erase_putAt _ _ _ hk, e, setBk_two]
    have : (holdM m.up { x with id := m.nu + 1 }).setBk h g s (m.bk h g s) = holdM m.up { x with id := m.nu + 1 } := by
      have := setBk_self (holdM m.up { x with id := m.nu + 1 }) h g s
      rw [eb] at this
      exact this
    rw [this]
    exact release_hold m.up (o := { x with id := m.nu + 1 }) L.eh L.eg L.es L.q.2.2
  · have hq := S.q
    have q2 : at3 m h' g' s' := ⟨by rw [← dm.2.2]; exact hq.1, by rw [← dm.2.1]; exact hq.2.1, hq.2.2⟩
    have hold : ∀ y ∈ m.bk h' g' s', y.id ≠ m.nu + 1 := fun y hy => by
      have := (I.od h' g' s' y q2.1 q2.2.1 q2.2.2 hy).id
      omega
    have ho := S.ho
    by_cases f : h' = h ∧ g' = g ∧ s' = s
    · obtain ⟨rfl, rfl, rfl⟩ := f
      rw [e1, putAt_get _ _ _ _ hk] at ho
      by_cases c1 : i < k
      · rw [if_pos c1] at ho
        exact absurd S.id (hold o (List.mem_of_getElem? ho))
      · rw [if_neg c1] at ho
        by_cases c2 : i = k
        · rw [if_pos c2] at ho
          exact ⟨rfl, rfl, rfl, c2, by simpa using ho.symm⟩
        · rw [if_neg c2] at ho
          exact absurd S.id (hold o (List.mem_of_getElem? ho))
    · rw [e2 _ _ _ f] at ho
      exact absurd S.id (hold o (List.mem_of_getElem? ho))

theorem spot_mem {t id : Int} {i : Nat} {o : Od} (S : Spot m t id h g s i o) : o ∈ m.all := mem_upH.2 ⟨h, g, s, S.q.1, S.q.2.1, S.q.2.2, List.mem_of_getElem? S.ho⟩

theorem Lone.change (L : Lone m x h g s) (I : m.Inv N) (J : m.Jn) (rich : m.mo x.t.toNat < 1000000000) (few : m.pc x.t.toNat h g < 10000) {n c : Int} {ts : List Td} {m' : Mt} (C : Changes (placeM m x) x.t (m.nu + 1) 100000 10000 n ts c m') : c = (if x.s = 0 then 6 else 7) ∧ m' = placeM m x := by
  obtain ⟨k, S, eB, un⟩ := L.back I
  obtain ⟨⟨z1, z2, z3, z4⟩, _⟩ := placeE_took L.ok
  have dT : (placeM m x).T = m.T := (Moves.dims (m := m) (m' := placeM m x) (.inr (.inr (.inr (.inr (.inr (.inr (.inr (.inr (.inr ⟨x, rfl⟩)))))))))).T
  have J1 : (placeM m x).Jn := J.place I x
  rcases C with ⟨f, _⟩ | ⟨_, f, _⟩ | ⟨_, h', g', s', i, o, S', C⟩
  · exact absurd (by rw [dT]; exact z1) f
  · exact absurd ⟨rfl, rfl⟩ (f _ (spot_mem S))
  · obtain ⟨rfl, rfl, rfl, rfl, rfl⟩ := un _ _ _ _ _ _ S'
    have hs := L.es
    have s2 := L.q.2.2
    have hf : (chOd { x with id := m.nu + 1 } 100000 10000).fit = true := by
      unfold chOd Od.fit inR
      simp
      omega
    have hq := L.pq
    have hE : placeE m.up (chOd { x with id := m.nu + 1 } 100000 10000) = if x.s = 0 then 6 else 7 := by
      unfold placeE
      rw [if_neg (fun f => f z1), if_neg (fun f => f z2), if_neg (fun f => f z3), if_neg (by rw [hf]; simp), if_neg (by show ¬ 60 ≤ m.all.length; omega)]
      by_cases e0 : x.s = 0
      · rw [if_pos e0, if_pos]
        refine ⟨e0, ?_⟩
        show m.mo x.t.toNat < (100000 : Int) * 10000 + m.fee x.h.toNat (100000 * 10000)
        have hr := I.ok.rt x.h.toNat (by have := L.q.1; have := L.eh; omega)
        have : 0 ≤ m.fee x.h.toNat (100000 * 10000) := by
          unfold Mt.fee
          exact Int.ediv_nonneg (Int.mul_nonneg (by decide) hr.1) (by decide)
        omega
      · rw [if_neg e0, if_neg (fun f => e0 f.1), if_pos]
        refine ⟨by show x.s = 1; omega, ?_⟩
        show m.pc x.t.toNat x.h.toNat x.g.toNat < 10000
        rw [show x.h.toNat = h' by have := L.eh; omega, show x.g.toNat = g' by have := L.eg; omega]
        exact few
    have hne : placeE m.up (chOd { x with id := m.nu + 1 } 100000 10000) ≠ 0 := by rw [hE]; split <;> omega
    rw [eB] at C
    rcases C with ⟨f, _⟩ | ⟨_, ⟨_, f⟩, _⟩ | ⟨_, _, f, _⟩ | ⟨_, _, _, _, _, rfl, rfl⟩
    · rw [hf] at f; cases f
    · exfalso
      have : (10000 : Int) ≤ x.q := f
      omega
    · exact absurd f hne
    · refine ⟨hE, ?_⟩
      rw [← eB]
      exact J1.again S.q S.ho

theorem Lone.cancel (L : Lone m x h g s) (I : m.Inv N) {c : Int} {m' : Mt} (C : Cancels (placeM m x) x.t (m.nu + 1) c m') : c = 0 ∧ m' = m.up := by
  obtain ⟨k, S, eB, un⟩ := L.back I
  obtain ⟨⟨z1, _⟩, _⟩ := placeE_took L.ok
  have dT : (placeM m x).T = m.T := (Moves.dims (m := m) (m' := placeM m x) (.inr (.inr (.inr (.inr (.inr (.inr (.inr (.inr (.inr ⟨x, rfl⟩)))))))))).T
  rcases C with ⟨f, _⟩ | ⟨_, f, _⟩ | ⟨_, h', g', s', i, o, S', rfl, rfl⟩
  · exact absurd (by rw [dT]; exact z1) f
  · exact absurd ⟨rfl, rfl⟩ (f _ (spot_mem S))
  · obtain ⟨rfl, rfl, rfl, rfl, rfl⟩ := un _ _ _ _ _ _ S'
    exact ⟨rfl, eB⟩

theorem Lone.gone (L : Lone m x h g s) (I : m.Inv N) {c : Int} {m' : Mt} (C : Cancels m.up x.t (m.nu + 1) c m') : c = 9 ∧ m' = m.up := by
  obtain ⟨⟨z1, _⟩, _⟩ := placeE_took L.ok
  rcases C with ⟨f, _⟩ | ⟨_, _, rfl, rfl⟩ | ⟨_, h', g', s', i, o, S', _⟩
  · exact absurd z1 f
  · exact ⟨rfl, rfl⟩
  · exfalso
    have hq := S'.q
    have := (I.od h' g' s' o hq.1 hq.2.1 hq.2.2 (List.mem_of_getElem? S'.ho)).id
    have h2 := S'.id
    omega
end

/-- what is told of a trader's orders is told in one way -/
theorem told_one {m : Mt} {t : Int} : ∀ {a b : List Od}, (a.Pairwise fun x y => x.id < y.id) → (b.Pairwise fun x y => x.id < y.id) → (∀ o, o ∈ a ↔ o ∈ b) → a = b
  | [], [], _, _, _ => rfl
  | [], y :: r, _, _, h => by have := (h y).2 (List.mem_cons_self ..); cases this
  | x :: r, [], _, _, h => by have := (h x).1 (List.mem_cons_self ..); cases this
  | x :: r, y :: q, ha, hb, h => by
    obtain ⟨a1, a2⟩ := List.pairwise_cons.1 ha
    obtain ⟨b1, b2⟩ := List.pairwise_cons.1 hb
    have e : x = y := by
      rcases List.mem_cons.1 ((h x).1 (List.mem_cons_self ..)) with e | hx
      · exact e
      · rcases List.mem_cons.1 ((h y).2 (List.mem_cons_self ..)) with e | hy
        · exact e.symm
        · have h1 := b1 x hx
          have h2 := a1 y hy
          omega
    subst e
    have hr : ∀ o, o ∈ r ↔ o ∈ q := fun o => by
      constructor
      · intro ho
        rcases List.mem_cons.1 ((h o).1 (List.mem_cons_of_mem _ ho)) with e | h1
        · have := a1 o ho; rw [e] at this; omega
        · exact h1
      · intro ho
        rcases List.mem_cons.1 ((h o).2 (List.mem_cons_of_mem _ ho)) with e | h1
        · have := b1 o ho; rw [e] at this; omega
        · exact h1
    rw [told_one (m := m) (t := t) a2 b2 hr]

theorem Told.one {m : Mt} {t : Int} {a b : List Od} (A : Told m t a) (B : Told m t b) : a = b := told_one (m := m) (t := t) A.up B.up fun o => (A.mem o).trans (B.mem o).symm

end

section
open Go.RowKit Go.Sort

/-- the desk, none of whose blocks is one of Z -/
def DeskZ (w : World) (rs : List Int) (X : Nat) (m : Mt) (W : World) (Z : Nat → Prop) : Prop :=
  ∃ L rv pb, L.x = X ∧ DRep w w.heap.size rs m.money (m.stock 0) (m.stock 1) L rv pb m W ∧ ∀ b, Z b → b < W.heap.size ∧ ¬ L.S m b

/-- the blocks of Z stand as they did -/
def KZ (Z : Nat → Prop) (W W' : World) : Prop := W.heap.size ≤ W'.heap.size ∧ ∀ b, Z b → W'.heap[b]? = W.heap[b]?

theorem KZ.trans {Z : Nat → Prop} {A B C : World} (h : KZ Z A B) (k : KZ Z B C) : KZ Z A C := ⟨Nat.le_trans h.1 k.1, fun b hb => (k.2 b hb).trans (h.2 b hb)⟩
theorem KZ.weak {Z Z' : Nat → Prop} {A B : World} (h : KZ Z A B) (hz : ∀ b, Z' b → Z b) : KZ Z' A B := ⟨h.1, fun b hb => h.2 b (hz b hb)⟩
theorem KZ.of {Z : Nat → Prop} {A B : World} (k : Kep non A B) (hz : ∀ b, Z b → b < A.heap.size) : KZ Z A B := ⟨k.size, fun b hb => k.block b (hz b hb) (fun f => f)⟩
theorem KZ.cell {Z : Nat → Prop} {A B : World} (h : KZ Z A B) {b j : Nat} {u : Value} (hc : A.cell? ⟨b, j, none⟩ = some u) (hb : Z b) : B.cell? ⟨b, j, none⟩ = some u := by
  have e := h.2 b hb
  rw [← hc]
  simp only [World.cell?, e]

section
variable {w : World} {rs : List Int} {X : Nat} {m : Mt} {W : World} {Z : Nat → Prop} {N : Int}

theorem DeskZ.desk (D : DeskZ w rs X m W Z) : DeskB w rs X m W := by
  obtain ⟨L, rv, pb, e, D, _⟩ := D
  exact ⟨L, rv, pb, e, D⟩
theorem DeskZ.weak {Z' : Nat → Prop} (D : DeskZ w rs X m W Z) (hz : ∀ b, Z' b → Z b) : DeskZ w rs X m W Z' := by
  obtain ⟨L, rv, pb, e, D, h⟩ := D
  exact ⟨L, rv, pb, e, D, fun b hb => h b (hz b hb)⟩
theorem DeskZ.lt (D : DeskZ w rs X m W Z) {b : Nat} (hb : Z b) : b < W.heap.size := by
  obtain ⟨L, rv, pb, e, D, h⟩ := D
  exact (h b hb).1
theorem DeskZ.later (D : DeskZ w rs X m W Z) {W' : World} (k : Kep non W W') : DeskZ w rs X m W' Z := by
  obtain ⟨L, rv, pb, e, D, h⟩ := D
  exact ⟨L, rv, pb, e, D.later k, fun b hb => ⟨Nat.lt_of_lt_of_le (h b hb).1 k.size, (h b hb).2⟩⟩
theorem DeskZ.more (D : DeskZ w rs X m W Z) (I : m.Inv N) {W' : World} (k : Kep non W W') : DeskZ w rs X m W' (fun b => Z b ∨ (W.heap.size ≤ b ∧ b < W'.heap.size)) := by
  obtain ⟨L, rv, pb, e, D, h⟩ := D
  refine ⟨L, rv, pb, e, D.later k, fun b hb => ?_⟩
  rcases hb with hb | hb
  · exact ⟨Nat.lt_of_lt_of_le (h b hb).1 k.size, (h b hb).2⟩
  · exact ⟨hb.2, fun f => by have := D.R.lt I.T1 I.G1 b f; omega⟩
theorem DeskZ.start (D : DeskB w rs X m W) (I : m.Inv N) {W' : World} (k : Kep non W W') : DeskZ w rs X m W' (fun b => W.heap.size ≤ b ∧ b < W'.heap.size) := by
  obtain ⟨L, rv, pb, e, D⟩ := D
  exact (DeskZ.more (Z := fun _ => False) ⟨L, rv, pb, e, D, fun b f => f.elim⟩ I k).weak fun b hb => .inr hb

theorem DeskZ.turn {m' : Mt} {W' : World} {L : PL} {rv : Value} {pb : Nat} (e : L.x = X) (D : DRep w w.heap.size rs m.money (m.stock 0) (m.stock 1) L rv pb m W) (hz : ∀ b, Z b → b < W.heap.size ∧ ¬ L.S m b) (s : m'.money = m.money ∧ m'.stock 0 = m.stock 0 ∧ m'.stock 1 = m.stock 1) (P : PPost W L m m' W') : DeskZ w rs X m' W' Z ∧ KZ Z W W' := by
  obtain ⟨L', ex, sub, R'⟩ := P.rep
  refine ⟨⟨L', rv, pb, ex.1.trans e, by rw [s.1, s.2.1, s.2.2]; exact D.turn P.kp ex sub R', fun b hb => ⟨Nat.lt_of_lt_of_le (hz b hb).1 P.kp.size, fun f => ?_⟩⟩, P.kp.size, fun b hb => P.kp.block b (hz b hb).1 (hz b hb).2⟩
  rcases sub b f with f | f
  · exact (hz b hb).2 f
  · have := (hz b hb).1
    omega

theorem DeskZ.place (D : DeskZ w rs X m W Z) (I : m.Inv N) (hn : m.nu + 1 ≤ N) (o : Od) :
    Calls Try.prog 19 #[.pointer (some ⟨X, 0, none⟩), o.agg] W fun e w' => ∃ (va : Option Addr) (vc : Nat), e = .returned (.tuple #[.int .i64 (placeI m o), .slice va (placeT m o).length vc, .int .i64 (placeE m o)]) ∧ DeskZ w rs X (placeM m o) w' Z ∧ KZ Z W w' := by
  have S := place_sums I hn o
  obtain ⟨L, rv, pb, rfl, D, hz⟩ := D
  refine (place_any W L m N D.R I hn o).mono fun e w' ⟨v, h1, h2⟩ => ?_
  obtain ⟨va, vc, rfl⟩ := row_form h2.tr
  exact ⟨va, vc, h1, DeskZ.turn rfl D hz ⟨S.1, S.2 0, S.2 1⟩ h2.pp⟩

theorem DeskZ.change (D : DeskZ w rs X m W Z) (I : m.Inv N) (hn : m.nu + 1 ≤ N) (t id p q : Int) :
    Calls Try.prog 25 #[.pointer (some ⟨X, 0, none⟩), .int .i64 t, .int .i64 id, .int .i64 p, .int .i64 q] W fun e w' => ∃ n v c ts m', Changes m t id p q n ts c m' ∧ e = .returned (.tuple #[.int .i64 n, v, .int .i64 c]) ∧ DeskZ w rs X m' w' Z ∧ KZ Z W w' := by
  obtain ⟨L, rv, pb, rfl, D, hz⟩ := D
  refine (change_any W L m N t id p q D.R I hn).mono fun e w' ⟨n, v, c, ts, m', C, h1, h2⟩ => ?_
  have S := Does.change (mon := m.money) (p0 := m.stock 0) (p1 := m.stock 1) I hn C
  exact ⟨n, v, c, ts, m', C, h1, DeskZ.turn rfl D hz ⟨by have := S.mon; omega, by have := S.s0; omega, by have := S.s1; omega⟩ h2.pp⟩

theorem DeskZ.cancel (D : DeskZ w rs X m W Z) (I : m.Inv N) (t id : Int) :
    Calls Try.prog 26 #[.pointer (some ⟨X, 0, none⟩), .int .i64 t, .int .i64 id] W fun e w' => ∃ c m', Cancels m t id c m' ∧ e = .returned (.int .i64 c) ∧ DeskZ w rs X m' w' Z ∧ KZ Z W w' := by
  obtain ⟨L, rv, pb, rfl, D, hz⟩ := D
  refine (cancel_any W L m N t id D.R I.ok).mono fun e w' ⟨c, m', C, h1, h2⟩ => ?_
  have S := Does.cancel (mon := m.money) (p0 := m.stock 0) (p1 := m.stock 1) I C
  exact ⟨c, m', C, h1, DeskZ.turn rfl D hz ⟨by have := S.mon; omega, by have := S.s0; omega, by have := S.s1; omega⟩ h2⟩
end

/-- the answers to Orders, as the law has them -/
def OrdIn (m : Mt) (t : Int) (W : World) (l : List Od) (va : Option Addr) (w3 : World) : Prop :=
  Told m t l ∧ Kep non W w3 ∧ ∀ i, i < l.length → ∃ b, va = some ⟨b, 0, none⟩ ∧ (W.heap.size ≤ b ∧ b < w3.heap.size) ∧ ∀ i (hi : i < l.length) j u, l[i].cells[j]? = some u → w3.cell? ⟨b, i * 8 + j, none⟩ = some u

theorem DeskB.ords {w : World} {rs : List Int} {X : Nat} {m : Mt} {W : World} {N : Int} (D : DeskB w rs X m W) (I : m.Inv N) (J : m.Jn) {t : Int} (okt : okI m.T t) :
    Calls Try.prog 17 #[.pointer (some ⟨X, 0, none⟩), .int .i64 t] W fun e w3 => ∃ (va : Option Addr) (l : List Od) (vc : Nat), e = .returned (.tuple #[.slice va l.length vc, .int .i64 0]) ∧ OrdIn m t W l va w3 :=
  (Desk.orders D I t).mono fun e w3 ⟨⟨k3, hO⟩, _⟩ => by
    rcases hO with ⟨f, _⟩ | ⟨_, v', l, hperm, hsort, hrow, rfl⟩
    · exact absurd okt f
    · obtain ⟨va', vc', rfl⟩ := row_form hrow
      refine ⟨va', l, vc', rfl, J.told hperm hsort, k3, fun i hi => ?_⟩
      obtain ⟨b, h1, h2, h3⟩ := row_at hrow i hi
      refine ⟨b, h1, ⟨h2, ?_⟩, h3⟩
      exact World.block_lt_of_cell? w3 ⟨b, i * 8 + 0, none⟩ (h3 i hi 0 _ rfl)

theorem rowZ {n : Nat} {α : Type} {cs : α → List Value} {Z : Nat → Prop} {A B : World} (k : KZ Z A B) {l : List α} {va : Option Addr} (h : ∀ i, i < l.length → ∃ b, va = some ⟨b, 0, none⟩ ∧ Z b ∧ ∀ i (hi : i < l.length) j u, (cs l[i])[j]? = some u → A.cell? ⟨b, i * n + j, none⟩ = some u) : ∀ i, i < l.length → ∃ b, va = some ⟨b, 0, none⟩ ∧ Z b ∧ ∀ i (hi : i < l.length) j u, (cs l[i])[j]? = some u → B.cell? ⟨b, i * n + j, none⟩ = some u := fun i hi => by
  obtain ⟨b, h1, h2, h3⟩ := h i hi
  exact ⟨b, h1, h2, fun i hi j u hu => k.cell (h3 i hi j u hu) h2⟩
theorem rowK {n : Nat} {α : Type} {cs : α → List Value} {A B : World} (k : Kep non A B) {l : List α} {va : Option Addr} (h : ∀ i, i < l.length → ∃ b, va = some ⟨b, 0, none⟩ ∧ ∀ i (hi : i < l.length) j u, (cs l[i])[j]? = some u → A.cell? ⟨b, i * n + j, none⟩ = some u) : ∀ i, i < l.length → ∃ b, va = some ⟨b, 0, none⟩ ∧ ∀ i (hi : i < l.length) j u, (cs l[i])[j]? = some u → B.cell? ⟨b, i * n + j, none⟩ = some u := fun i hi => by
  obtain ⟨b, h1, h3⟩ := h i hi
  exact ⟨b, h1, fun i hi j u hu => k.cell (h3 i hi j u hu) (fun f => f)⟩
theorem rowD {n : Nat} {α : Type} {cs : α → List Value} {Z : Nat → Prop} {A : World} {l : List α} {va : Option Addr} (h : ∀ i, i < l.length → ∃ b, va = some ⟨b, 0, none⟩ ∧ Z b ∧ ∀ i (hi : i < l.length) j u, (cs l[i])[j]? = some u → A.cell? ⟨b, i * n + j, none⟩ = some u) : ∀ i, i < l.length → ∃ b, va = some ⟨b, 0, none⟩ ∧ ∀ i (hi : i < l.length) j u, (cs l[i])[j]? = some u → A.cell? ⟨b, i * n + j, none⟩ = some u := fun i hi => by
  obtain ⟨b, h1, _, h3⟩ := h i hi
  exact ⟨b, h1, h3⟩

theorem lvCells_at2 : ∀ (l : List Lv) (k j : Nat) (hk : k < l.length), j < 3 → (lvCells l)[k * 3 + j]? = l[k].cells[j]?
  | x :: r, 0, j, _, hj => by
    simp only [lvCells, List.flatMap_cons, Nat.zero_mul, Nat.zero_add, List.getElem_cons_zero]
    rw [List.getElem?_append_left (by simpa [Lv.cells] using hj)]
  | x :: r, k + 1, j, hk, hj => by
    have ih := lvCells_at2 r k j (by simpa using hk) hj
    simp only [lvCells, List.flatMap_cons, List.getElem_cons_succ] at ih ⊢
    rw [List.getElem?_append_right (by simp [Lv.cells]; omega)]
    rw [← ih]
    congr 1
    simp [Lv.cells]
    omega

theorem Desk.bookU {w : World} {rs : List Int} {x : Nat} {mon p0 p1 : Int} {m : Mt} {W : World} {N : Int} (D : Desk w rs x mon p0 p1 m W) (I : m.Inv N) {h g : Nat} (hh : h < m.H) (hg : g < m.G) : Calls Try.prog 23 #[.pointer (some ⟨x, 0, none⟩), .int .i64 h, .int .i64 g] W (BookPost W m h g) := by
  obtain ⟨L, rv, pb, rfl, D⟩ := D
  exact book_any W L m N D.R I.ok h g hh hg

/-- a row of levels, out of Book -/
theorem lvrow {W : World} {B vc : Nat} {gs : List Lv} {va : Option Addr} (r : W.ownsRow B 69 3 (.slice va gs.length vc) gs.length (lvCells gs)) : ∀ i, i < gs.length → ∃ b, va = some ⟨b, 0, none⟩ ∧ (B ≤ b ∧ b < W.heap.size) ∧ ∀ i (hi : i < gs.length) j u, gs[i].cells[j]? = some u → W.cell? ⟨b, i * 3 + j, none⟩ = some u := fun i hi => by
  obtain ⟨ob, oc, ov, _, _⟩ := r.form (by omega)
  simp only [Value.slice.injEq, true_and] at ov
  obtain ⟨rfl, rfl⟩ := ov
  refine ⟨ob, rfl, r.lt ob rfl, fun i hi j u hu => ?_⟩
  have hj : j < 3 := by have := (List.getElem?_eq_some_iff.1 hu).1; simpa [Lv.cells] using this
  rw [r.cellAt _ (by omega), lvCells_at2 _ _ j hi hj]
  exact hu

theorem stkRow_up (m : Mt) (t h : Nat) : ∀ n, stkRow m.up t h n = stkRow m t h n
  | 0 => rfl
  | n + 1 => by
    have ih := stkRow_up m t h n
    simp only [stkRow, ih]
    rfl
theorem stkTo_up (m : Mt) (t : Nat) : ∀ n, stkTo m.up t n = stkTo m t n
  | 0 => rfl
  | n + 1 => by
    have ih := stkTo_up m t n
    have h1 : stkRow m.up t n m.up.G = stkRow m t n m.G := stkRow_up m t n m.G
    simp only [stkTo, ih, h1]

/-- a row of levels, as the law has it -/
def LvsIn (W : World) (gs : List Lv) (va : Option Addr) (w3 : World) : Prop := ∀ i, i < gs.length → ∃ b, va = some ⟨b, 0, none⟩ ∧ (W.heap.size ≤ b ∧ b < w3.heap.size) ∧ ∀ i (hi : i < gs.length) j u, gs[i].cells[j]? = some u → w3.cell? ⟨b, i * 3 + j, none⟩ = some u

end

end Go.Proofs.Ytcfoobhihhndjaa
