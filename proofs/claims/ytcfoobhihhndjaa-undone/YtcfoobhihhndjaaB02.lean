/- The program's queue: going through it (slices.Values, Queue.All, slices.AppendSeq). -/
import Derived.LoopIn
import Derived.LoopNIn
import Derived.Maps.AppendAt
import Derived.OwnWalkIn
import Derived.RangeFuncBox
import Derived.RangeFuncLeaves
import Derived.Shelf.Abstract
import Derived.TacticsInMore
import Derived.Test.YtcfoobhihhndjaaB01
import Derived.Test.YtcfoobhihhndjaaProg
import Derived.WalkKit
namespace Go.Proofs.Ytcfoobhihhndjaa

section
open Go.RowKit Go.Shelf

attribute [local go_sem] Oper.semAt_some

def optr (b : Nat) : Value := .pointer (some ⟨b, 0, none⟩)

set_option maxRecDepth 100000 in
set_option maxHeartbeats 2000000 in
theorem values1_in {α : Type} (f : α → Nat) (F : Fence) (n : Nat) (h7 : F.fn 96) (hro : F.round = none) (hn : 1 ≤ n) (l Bs n₀ b off len cap : Nat) (zs : List α) (hlen : zs.length = len) (hreach : len * 8 ≤ 140737488351232) (hb : b < n₀) (J Jx : List α → World → Prop)
    (hY : ∀ pre x W, J pre W → pre.length < len → YieldAt F (n - 1) Try.prog l #[.pointer (some ⟨f x, 0, none⟩)] W fun e W' =>
      (e = .returned (.bool true) ∧ J (pre ++ [x]) W' ∧ Below n₀ W W') ∨ (e = .returned (.bool false) ∧ Jx (pre ++ [x]) W'))
    (W : World) (hBs : W.cell? ⟨Bs, 0, none⟩ = some (.slice (some ⟨b, off, none⟩) len cap)) (hc : ∀ j (hj : j < zs.length), W.cell? ⟨b, off + j, none⟩ = some (.pointer (some ⟨f zs[j], 0, none⟩))) (h0 : J [] W) :
    CallsIn F n Try.prog 96 #[.func (.yield l) #[] #[], .pointer (some ⟨Bs, 0, none⟩)] W fun e W' => (∃ v, e = .returned v) ∧
      ((∃ ys, ys = zs ∧ J ys W') ∨ (∃ pre, pre <+: zs ∧ Jx pre W')) := by
  refine callsIn_of_wp Try.func96 rfl h7 ?_ hro
  simp only [Try.ntmps96, List.size_toArray, List.length_cons, List.length_nil, Nat.reduceAdd, Nat.reduceSub, Array.replicate_succ, Array.replicate_zero, List.push_toArray, List.append_toArray, List.nil_append, List.cons_append]
  gi_wp2
  gi_loopw [7] (fun i wr => ∃ k : Nat, k ≤ len ∧ i = .int .i64 k ∧ J (zs.take k) wr ∧ Below n₀ W wr)
    (fun i _ => len - (intOf i).toNat)
  case atStart => exact ⟨0, Nat.zero_le _, rfl, h0, Below.refl _ _⟩
  case round =>
    obtain ⟨k, hk, rfl, hJs, hnx⟩ := hrel
    by_cases hlt : k < len
    · have hlz : k < zs.length := by omega
      have ht : zs.take (k + 1) = zs.take k ++ [zs[k]] := List.take_succ_eq_append_getElem hlz
      have hcx : wr.cell? ⟨b, off + k, none⟩ = some (.pointer (some ⟨f zs[k], 0, none⟩)) := (hnx.cell (p := ⟨b, off + k, none⟩) hb).trans (hc k hlz)
      obtain ⟨fn, tmps, assign, body, hy, hR⟩ := hY _ zs[k] wr hJs (by rw [List.length_take]; omega)
      rw [← ht] at hR
      have hpre : zs.take (k + 1) <+: zs := List.take_prefix _ _
      clear ht
      generalize f zs[k] = fx at *
      generalize hg1 : zs.take (k + 1) = z1 at *
      clear hc
      gi_wp2
      refine hR.mono ?_
      rintro e W3 (⟨rfl, hJ3, hk3⟩ | ⟨rfl, hJx3⟩)
      · gi_wp2
        go_roundw
        case rel => exact ⟨k + 1, by omega, by simp, by rw [hg1]; exact hJ3, hnx.trans hk3⟩
        case measure => simp [intOf]; omega
      · gi_wp2
        refine bodyPost_ret (results_none rfl _ _ _) rfl ?_
        exact ⟨⟨_, rfl⟩, .inr ⟨_, hpre, hJx3⟩⟩
    · have e : zs.take k = zs := List.take_of_length_le (by omega)
      rw [e] at hJs
      gi_wp2
      go_end0
      exact ⟨⟨_, rfl⟩, .inl ⟨_, rfl, hJs⟩⟩

/-- the slice holds the pointers to the blocks zs, in a block below n₀; or there are none -/
def Ptrs (n₀ : Nat) (W : World) (sv : Value) (zs : List Nat) : Prop :=
  (∃ c, sv = .slice none 0 c ∧ zs = []) ∨ ∃ b cap, sv = .slice (some ⟨b, 0, none⟩) zs.length cap ∧ b < n₀ ∧ ∀ j (hj : j < zs.length), W.cell? ⟨b, 0 + j, none⟩ = some (.pointer (some ⟨zs[j], 0, none⟩))
theorem Ptrs.below {n₀ : Nat} {A B : World} (h : Below n₀ A B) {sv : Value} {zs : List Nat} : Ptrs n₀ A sv zs → Ptrs n₀ B sv zs
  | .inl e => .inl e
  | .inr ⟨b, cap, e, hb, hc⟩ => .inr ⟨b, cap, e, hb, fun j hj => (h.cell (p := ⟨b, 0 + j, none⟩) hb).trans (hc j hj)⟩

set_option maxRecDepth 100000 in
set_option maxHeartbeats 1000000 in
theorem values1_nil_in {α : Type} (F : Fence) (n : Nat) (h7 : F.fn 96) (hro : F.round = none) (l Bs c : Nat) (J : List α → World → Prop) (W : World) (hBs : W.cell? ⟨Bs, 0, none⟩ = some (.slice none 0 c)) (h0 : J [] W) :
    CallsIn F n Try.prog 96 #[.func (.yield l) #[] #[], .pointer (some ⟨Bs, 0, none⟩)] W fun e W' => (∃ v, e = .returned v) ∧ J [] W' := by
  refine callsIn_of_wp Try.func96 rfl h7 ?_ hro
  simp only [Try.ntmps96, List.size_toArray, List.length_cons, List.length_nil, Nat.reduceAdd, Nat.reduceSub, Array.replicate_succ, Array.replicate_zero, List.push_toArray, List.append_toArray, List.nil_append, List.cons_append]
  gi_wp2
  gi_loopw [7] (fun i wr => i = .int .i64 0 ∧ J [] wr) (fun _ _ => 0)
  case atStart => exact ⟨rfl, h0⟩
  case round =>
    obtain ⟨rfl, hJs⟩ := hrel
    gi_wp2
    go_end0
    exact ⟨⟨_, rfl⟩, hJs⟩

theorem values_stops {α : Type} (f : α → Nat) (F : Fence) (n : Nat) (h7 : F.fn 96) (hro : F.round = none) (hn : 1 ≤ n) (Bs n₀ : Nat) (sv : Value) (zs : List α) (hreach : zs.length * 8 ≤ 140737488351232) (w : World) (hBs : Bs < w.heap.size) (hn₀ : n₀ ≤ w.heap.size)
    (hc : w.cell? ⟨Bs, 0, none⟩ = some sv) (hI : Ptrs n₀ w sv (zs.map f)) :
    SeqStopsK F n Try.prog 96 #[.pointer (some ⟨Bs, 0, none⟩)] (fun x : α => #[Value.pointer (some ⟨f x, 0, none⟩)]) (Below n₀) (fun ys => ys = zs) (fun pre => pre <+: zs) zs.length w := fun l J Jx W hW _ _ hY h0 => by
  have hc' := (hW.cell (p := ⟨Bs, 0, none⟩) hBs).trans hc
  rcases hI.below (hW.mono hn₀) with ⟨c, rfl, e⟩ | ⟨b, cap, rfl, hb, hcs⟩
  · obtain rfl : zs = [] := by simpa using e
    exact (values1_nil_in F n h7 hro l Bs c J W hc' h0).mono fun e W' ⟨he, hj⟩ => ⟨he, .inl ⟨_, rfl, hj⟩⟩
  · rw [List.length_map] at hc'
    exact values1_in f F n h7 hro hn l Bs n₀ b 0 zs.length cap zs rfl hreach hb J Jx hY W hc' (fun j hj => by have := hcs j (by simpa using hj); simpa using this) h0

set_option maxHeartbeats 1000000 in
theorem values_in (F : Fence) (n : Nat) (h5 : F.fn 80) (hro : F.round = none) (a : Option Addr) (len cap : Nat) (w : World) :
    CallsIn F n Try.prog 80 #[.slice a len cap] w fun e w' => e = .returned (.func (.func 96) #[] #[.pointer (some ⟨w.heap.size, 0, none⟩)]) ∧ w' = w.alloc (.cells #[.slice a len cap] 88) := by
  refine callsIn_of_wp Try.func80 rfl h5 ?_ hro
  simp only [Try.ntmps80, List.size_toArray, List.length_cons, List.length_nil, Nat.reduceAdd, Nat.reduceSub, Array.replicate_succ, Array.replicate_zero, List.push_toArray, List.append_toArray, List.nil_append, List.cons_append]
  gi_wp2
  go_ret
  exact ⟨rfl, rfl⟩

/-- Queue.All -/
theorem all_any (q : Nat) (a : Option Addr) (len cap : Nat) (w : World) (h1 : w.cell? ⟨q, 1, none⟩ = some (.slice a len cap)) :
    Calls Try.prog 63 #[.pointer (some ⟨q, 0, none⟩)] w fun e w' => e = .returned (.func (.func 96) #[] #[.pointer (some ⟨w.heap.size, 0, none⟩)]) ∧ w' = w.alloc (.cells #[.slice a len cap] 88) := by
  have hv : ∀ w : World, Calls Try.prog 80 #[.slice a len cap] w fun e w' => e = .returned (.func (.func 96) #[] #[.pointer (some ⟨w.heap.size, 0, none⟩)]) ∧ w' = w.alloc (.cells #[.slice a len cap] 88) := fun w => (callsIn_wide (n := 3)).1 (values_in Fence.wide 3 trivial rfl a len cap w)
  go_enter Try.func63, Try.ntmps63
  go_wp2_with (go_at_call 80; refine (hv _).mono ?_; rintro e w' ⟨rfl, rfl⟩)
  go_ret
  exact ⟨rfl, rfl⟩

theorem infoOrderPtr : (Try.prog.info? 90).map (fun i => (i.zero, i.size, i.bytes)) = some (some (.pointer none), 1, 8) := by kernel_rfl

set_option maxRecDepth 100000 in
set_option maxHeartbeats 2000000 in
theorem appendSeq_in (F : Fence) (n : Nat) (h3 : F.fn 62) (h5 : F.fn 96) (hro : F.round = none) (hn : 3 ≤ n) (w : World) (B Bs : Nat) (a : Option Addr) (len cap : Nat) (qv : Value) (ps zs : List Nat) (hB : B ≤ w.heap.size) (hl : ps.length + zs.length ≤ 1000000)
    (hrow : w.ownsRow B 90 1 (.slice a len cap) ps.length (ps.map optr)) (hBs : w.cell? ⟨Bs, 0, none⟩ = some qv) (hq : Ptrs B w qv zs) :
    CallsIn F n Try.prog 62 #[.slice a len cap, .func (.func 96) #[] #[.pointer (some ⟨Bs, 0, none⟩)]] w fun e W' => ∃ v, e = .returned v ∧ W'.ownsRow B 90 1 v (ps.length + zs.length) ((ps ++ zs).map optr) ∧ Below B w W' := by
  have h1 : 1 ≤ n := by omega
  obtain ⟨i0, hi, hz0, hz1, hz2⟩ := info_parts infoOrderPtr
  refine callsIn_of_wp_marks Try.func62 rfl h3 ?_ hro
  simp only [Try.ntmps62, List.size_toArray, List.length_cons, List.length_nil, Nat.reduceAdd, Nat.reduceSub, Array.replicate_succ, Array.replicate_zero, List.push_toArray, List.append_toArray, List.nil_append, List.cons_append]
  gi_wp2
  have bO := Boxed.new w 88 (.slice a len cap)
  have hB0 : Below B w (w.alloc (.cells #[.slice a len cap] 88)) := (Below.refl _ w).alloc hB _
  have hlt : Bs < w.heap.size := World.block_lt_of_cell? w _ hBs
  refine wpIn_rangeFunc_ownG hro h1 (gf := 96) (lb := #[.pointer (some ⟨Bs, 0, none⟩)]) rfl h5 (enters_of Try.func96 (by kernel_rfl) rfl)
    (values_stops (fun x : Nat => x) F (n - 1) h5 hro (by omega) Bs B qv zs (by omega) _ (by simp; omega) (by simp; omega) ((((Below.refl w.heap.size w).alloc (Nat.le_refl _) _).cell (p := ⟨Bs, 0, none⟩) hlt).trans hBs) (by simpa using hq.below hB0)) belowK_t (belowK_b (by simp; omega)) (Below.refl _ _) (fun _ => rfl)
    (fun pre W => (∃ v, Boxed W w.heap.size 88 v ∧ W.ownsRow B 90 1 v (ps.length + pre.length) ((ps ++ pre).map optr) ∧ True) ∧ Below B w W)
    (fun _ _ _ => False)
    (OwnFrom.and (Own.from (holdsRow_own B w.heap.size 88 90 1 (fun pre => ps.length + pre.length) (fun pre => (ps ++ pre).map optr) (fun pre v => True)) _) (ownFrom_below hB (by simp; omega)))
    (fun _ _ _ _ _ hs _ _ => hs)
    ⟨⟨_, bO, by simpa using hrow.alloc _, trivial⟩, hB0⟩
    (fun x => { tmps := #[.slice a len cap, .func (.func 96) #[] #[.pointer (some ⟨Bs, 0, none⟩)], .pointer (some ⟨w.heap.size, 0, none⟩), undef, .slice none 0 0, .pointer (some ⟨x, 0, none⟩), .func (.func 96) #[] #[.pointer (some ⟨Bs, 0, none⟩)], .pointer (some ⟨x, 0, none⟩), undef, undef, undef, undef, undef], defers := [] }) ?assign ?body ?done ?stop
  case assign =>
    intro l x W K hK
    gi_wp2
    exact hK
  case body =>
    rintro l pre x W ⟨⟨v, hv, hrow, _⟩, hB1⟩ hlt1
    have hc := hv.cell
    have hbs := hB1.size
    gi_wp2_with (gi_at_builtin; refine wpListIn_append_own _ rfl _ _ 88 rfl B 90 i0 (.pointer none) 1 8 Try.underlying88 hi hz0 hz1 hz2 rfl (by decide) _ _ _ rfl (hrow.alloc _) ⟨W.heap.size, 0, none⟩ 1 1 [.pointer (some ⟨x, 0, none⟩)] rfl rfl (cell_one_new _ _ _) (by simp [Value.oneCell']) (by simp only [maxLen]; omega) (by omega) (by simp; omega) ?_; intro v' w1 hown' hgrow _; obtain ⟨g', cap', rfl⟩ := ownsRow_succ hown'; obtain ⟨hv1, hv2, hr2, hk2, hb2⟩ := hv.appended (by decide) hrow (by omega) hB hown' hgrow; have hc1 := hv1.cell; have hf1 := hv1.frozen)
    exact ⟨hk2.from _, hb2, ⟨_, hv2, by simpa [optr, Nat.add_assoc] using hr2, trivial⟩, hB1.trans hb2⟩
  case done =>
    rintro D ys W hD rfl ⟨⟨v, hv, hrow, _⟩, hB1⟩ hK
    have hc := hv.cell
    gi_wp2
    refine ⟨by simp, .inl ⟨_, _, rfl, run_takeDeferred hK, ?_⟩⟩
    exact ⟨_, results_tmp rfl _ _ _, v, rfl, ownsRow_putObj hrow _ hK rfl, hB1.trans (belowK_b (w := w) hB W D _ _ (by simp at hD; omega) hK rfl rfl)⟩
  case stop =>
    rintro D c pre W _ _ h _
    exact h.elim
end

/- The program's market in memory. -/
section
open Go.RowKit

/-- names of the blocks that its calls may write -/
abbrev Jx : Type := Unit ⊕ Unit ⊕ Unit ⊕ Nat ⊕ (Nat × Nat × Nat) ⊕ (Nat × Nat × Nat) ⊕ (Nat × Nat × Nat × Nat)
abbrev Jx.x : Jx := .inl ()
abbrev Jx.ab : Jx := .inr (.inl ())
abbrev Jx.lv : Jx := .inr (.inr (.inl ()))
abbrev Jx.gb (h : Nat) : Jx := .inr (.inr (.inr (.inl h)))
abbrev Jx.qb (h g s : Nat) : Jx := .inr (.inr (.inr (.inr (.inl (h, g, s)))))
abbrev Jx.qv (h g s : Nat) : Jx := .inr (.inr (.inr (.inr (.inr (.inl (h, g, s))))))
abbrev Jx.ob (h g s i : Nat) : Jx := .inr (.inr (.inr (.inr (.inr (.inr (h, g, s, i))))))

/-- Where the program's market lies. -/
structure PL where
  x : Nat
  rb : Nat
  rcap : Nat
  ab : Nat
  lv : Value
  bb : Nat
  gb : Nat → Nat
  qb : Nat → Nat → Nat → Nat
  qv : Nat → Nat → Nat → Value
  ob : Nat → Nat → Nat → List Nat

def at3 (m : Mt) (h g s : Nat) : Prop := h < m.H ∧ g < m.G ∧ s < 2
def at3d (m : Mt) (h g s : Nat) : Decidable (at3 m h g s) := by unfold at3; exact inferInstance

/-- the blocks that its calls may write -/
def PL.F (L : PL) (m : Mt) : Jx → Option Nat
  | .inl _ => some L.x
  | .inr (.inl _) => some L.ab
  | .inr (.inr (.inl _)) => L.lv.ownBlock
  | .inr (.inr (.inr (.inl h))) => if h < m.H then some (L.gb h) else none
  | .inr (.inr (.inr (.inr (.inl (h, g, s))))) => @ite (Option Nat) (at3 m h g s) (at3d m h g s) (some (L.qb h g s)) none
  | .inr (.inr (.inr (.inr (.inr (.inl (h, g, s)))))) => @ite (Option Nat) (at3 m h g s) (at3d m h g s) (L.qv h g s).ownBlock none
  | .inr (.inr (.inr (.inr (.inr (.inr (h, g, s, i)))))) => @ite (Option Nat) (at3 m h g s) (at3d m h g s) (L.ob h g s)[i]? none

def PL.S (L : PL) (m : Mt) (b : Nat) : Prop := ∃ i, L.F m i = some b

def loCells (l : List Lo) : List Value := l.flatMap Lo.cells

def aheadFn (s : Nat) : Value := if s = 0 then .func (.func 78) #[] #[] else .func (.func 79) #[] #[]

structure PRep (w : World) (L : PL) (m : Mt) : Prop where
  cG : Own w ⟨L.x, 0, none⟩ (.int .i64 m.G)
  cR : Own w ⟨L.x, 1, none⟩ (.slice (some ⟨L.rb, 0, none⟩) m.H L.rcap)
  cA : Own w ⟨L.x, 2, none⟩ (.slice (some ⟨L.ab, 0, none⟩) m.T m.T)
  cL : Own w ⟨L.x, 3, none⟩ L.lv
  cB : Own w ⟨L.x, 4, none⟩ (.slice (some ⟨L.bb, 0, none⟩) m.H m.H)
  cN : Own w ⟨L.x, 5, none⟩ (.int .i64 m.nu)
  cH : Own w ⟨L.x, 6, none⟩ (.int .i64 m.ho)
  cTm : Own w ⟨L.x, 7, none⟩ (.int .i64 m.tm)
  rt : ∀ h, h < m.H → w.cell? ⟨L.rb, h, none⟩ = some (.int .i64 (m.rt h))
  mo : ∀ t, t < m.T → Own w ⟨L.ab, t * 17, none⟩ (.int .i64 (m.mo t))
  pc : ∀ t h g, t < m.T → h < 4 → g < 4 → Own w ⟨L.ab, t * 17 + 1 + h * 4 + g, none⟩ (.int .i64 (m.pc t h g))
  ld : w.ownsRow 0 87 5 L.lv m.ld.length (loCells m.ld)
  bks : ∀ h, h < m.H → w.cell? ⟨L.bb, h, none⟩ = some (.slice (some ⟨L.gb h, 0, none⟩) m.G m.G)
  sd : ∀ h g s, at3 m h g s → Own w ⟨L.gb h, g * 5 + s, none⟩ (.pointer (some ⟨L.qb h g s, 0, none⟩))
  la : ∀ h g, h < m.H → g < m.G → Own w ⟨L.gb h, g * 5 + 2, none⟩ (.int .i64 (m.la h g))
  pi : ∀ h g, h < m.H → g < m.G → Own w ⟨L.gb h, g * 5 + 3, none⟩ (.int .i64 (m.pi h g))
  am : ∀ h g, h < m.H → g < m.G → Own w ⟨L.gb h, g * 5 + 4, none⟩ (.int .i64 (m.am h g))
  q0 : ∀ h g s, at3 m h g s → w.cell? ⟨L.qb h g s, 0, none⟩ = some (aheadFn s)
  q1 : ∀ h g s, at3 m h g s → Own w ⟨L.qb h g s, 1, none⟩ (L.qv h g s)
  qr : ∀ h g s, at3 m h g s → w.ownsRow 0 90 1 (L.qv h g s) (L.ob h g s).length ((L.ob h g s).map optr)
  ln : ∀ h g s, at3 m h g s → (L.ob h g s).length = (m.bk h g s).length
  oc : ∀ (h g s i b : Nat) (o : Od), at3 m h g s → (L.ob h g s)[i]? = some b → (m.bk h g s)[i]? = some o → ∀ j v, o.cells[j]? = some v → Own w ⟨b, j, none⟩ v
  oz : ∀ (h g s i b : Nat), at3 m h g s → (L.ob h g s)[i]? = some b → Plain w b
  inj : ∀ i j b, L.F m i = some b → L.F m j = some b → i = j
  nrb : ¬ L.S m L.rb
  nbb : ¬ L.S m L.bb

theorem PL.S.mk {L : PL} {m : Mt} {b : Nat} (i : Jx) (h : L.F m i = some b) : L.S m b := ⟨i, h⟩

theorem PRep.keep {S : Nat → Prop} {w w' : World} {L : PL} {m : Mt} (h : PRep w L m) (k : Kep S w w') (hs : ∀ b, L.S m b → ¬ S b) (hr : ¬ S L.rb) (hb : ¬ S L.bb) : PRep w' L m := by
  have a1 : ¬ S L.x := hs _ ⟨.x, rfl⟩
  have a2 : ¬ S L.ab := hs _ ⟨.ab, rfl⟩
  have a3 : ∀ i, i < m.H → ¬ S (L.gb i) := fun i hi => hs _ ⟨.gb i, by simp [PL.F, hi]⟩
  have a4 : ∀ i g s, at3 m i g s → ¬ S (L.qb i g s) := fun i g s q => hs _ ⟨.qb i g s, by simp [PL.F, q]⟩
  have a5 : ∀ i g s b, at3 m i g s → (L.qv i g s).ownBlock = some b → ¬ S b := fun i g s b q e => hs _ ⟨.qv i g s, by simp [PL.F, q, e]⟩
  have a6 : ∀ i g s n b, at3 m i g s → (L.ob i g s)[n]? = some b → ¬ S b := fun i g s n b q e => hs _ ⟨.ob i g s n, by simp [PL.F, q, e]⟩
  exact ⟨h.cG.kep k a1, h.cR.kep k a1, h.cA.kep k a1, h.cL.kep k a1, h.cB.kep k a1, h.cN.kep k a1, h.cH.kep k a1, h.cTm.kep k a1, fun i hi => k.cell (h.rt i hi) hr, fun t ht => (h.mo t ht).kep k a2, fun t i g ht hi hg => (h.pc t i g ht hi hg).kep k a2,
    ownsRow_kep h.ld k (fun g hg => hs g ⟨.lv, hg⟩), fun i hi => k.cell (h.bks i hi) hb, fun i g s q => (h.sd i g s q).kep k (a3 i q.1), fun i g hi hg => (h.la i g hi hg).kep k (a3 i hi), fun i g hi hg => (h.pi i g hi hg).kep k (a3 i hi), fun i g hi hg => (h.am i g hi hg).kep k (a3 i hi),
    fun i g s q => k.cell (h.q0 i g s q) (a4 i g s q), fun i g s q => (h.q1 i g s q).kep k (a4 i g s q), fun i g s q => ownsRow_kep (h.qr i g s q) k (fun b e => a5 i g s b q e), h.ln, fun i g s n b o q e1 e2 j v e3 => (h.oc i g s n b o q e1 e2 j v e3).kep k (a6 i g s n b q e1), fun i g s n b q e => (h.oz i g s n b q e).kep k (a6 i g s n b q e), h.inj, h.nrb, h.nbb⟩

theorem PRep.later {w w' : World} {L : PL} {m : Mt} (h : PRep w L m) (k : Kep non w w') : PRep w' L m := h.keep k (fun _ _ q => q) (fun q => q) (fun q => q)

theorem PRep.bel {w w' : World} {L : PL} {m : Mt} (h : PRep w L m) (k : Below w.heap.size w w') : PRep w' L m := h.later (Kep.of_below k)

theorem PRep.lt {w : World} {L : PL} {m : Mt} (h : PRep w L m) (T1 : 1 ≤ m.T) (G1 : 1 ≤ m.G) : ∀ b, L.S m b → b < w.heap.size := by
  rintro b ⟨i, hi⟩
  rcases i with _ | _ | _ | i | ⟨i, g, s⟩ | ⟨i, g, s⟩ | ⟨i, g, s, n⟩
  · obtain rfl : L.x = b := by simpa [PL.F] using hi
    exact h.cG.lt
  · obtain rfl : L.ab = b := by simpa [PL.F] using hi
    exact (h.mo 0 (by omega)).lt
  · exact (h.ld.lt b hi).2
  · simp only [PL.F] at hi
    split at hi
    · obtain rfl : L.gb i = b := by simpa using hi
      exact (h.la i 0 (by assumption) (by omega)).lt
    · simp at hi
  · simp only [PL.F] at hi
    split at hi
    · obtain rfl : L.qb i g s = b := by simpa using hi
      exact (h.q1 i g s (by assumption)).lt
    · simp at hi
  · simp only [PL.F] at hi
    split at hi
    · exact ((h.qr i g s (by assumption)).lt b hi).2
    · simp at hi
  · simp only [PL.F] at hi
    split at hi
    · have q : at3 m i g s := by assumption
      have hn : n < (L.ob i g s).length := (List.getElem?_eq_some_iff.1 hi).1
      rw [h.ln i g s q] at hn
      exact (h.oc i g s n b _ q hi (List.getElem?_eq_getElem hn) 0 _ rfl).lt
    · simp at hi

theorem PRep.rblt {w : World} {L : PL} {m : Mt} (h : PRep w L m) (H1 : 1 ≤ m.H) : L.rb < w.heap.size ∧ L.bb < w.heap.size :=
  ⟨World.block_lt_of_cell? w _ (h.rt 0 (by omega)), World.block_lt_of_cell? w _ (h.bks 0 (by omega))⟩

/-- the blocks of all orders that wait -/
def PL.all (L : PL) (m : Mt) : List Nat := upH m.G L.ob m.H

/-- the things of a queue, as an iterator goes through them -/
theorem PRep.ptrs {w : World} {L : PL} {m : Mt} (h : PRep w L m) {i g s : Nat} (q : at3 m i g s) : Ptrs w.heap.size w (L.qv i g s) (L.ob i g s) := by
  have r := h.qr i g s q
  rcases r.2 with ⟨e, e2⟩ | ⟨b, cap, cur, e, _, e2, _⟩
  · exact .inl ⟨0, e, List.eq_nil_of_length_eq_zero e2⟩
  · refine .inr ⟨b, cap, e, (Array.getElem?_eq_some_iff.1 e2).1, fun j hj => ?_⟩
    rw [e] at r
    rw [Nat.zero_add, r.cellAt j (by omega)]
    simp [List.getElem?_eq_getElem hj, optr]

theorem PRep.qvform {w : World} {L : PL} {m : Mt} (h : PRep w L m) {i g s : Nat} (q : at3 m i g s) : ∃ a c, L.qv i g s = .slice a (L.ob i g s).length c := by
  rcases (h.qr i g s q).2 with ⟨e, e2⟩ | ⟨b, cap, cur, e, _⟩
  · exact ⟨none, 0, by rw [e, e2]⟩
  · exact ⟨_, _, e⟩
end

end Go.Proofs.Ytcfoobhihhndjaa
