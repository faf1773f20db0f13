/- The program's market in memory; its small functions. -/
import Derived.Test.YtcbfmolebomkdaaD
import Derived.Deep.AppendLies
namespace Go.Proofs.Ytcbfmolebomkdaa
open Go.RowKit Go.Sort

/-- Where the program's market lies. -/
structure PL where
  x : Nat
  rb : Nat
  rcap : Nat
  ab : Nat
  lv : Value

def PL.fp (L : PL) : List Nat := [L.x, L.ab] ++ L.lv.ownBlock.toList

structure PRep (w : World) (L : PL) (m : Mk) : Prop where
  cG : Own w ⟨L.x, 0, none⟩ (.int .i64 m.G)
  cR : Own w ⟨L.x, 1, none⟩ (.slice (some ⟨L.rb, 0, none⟩) m.H L.rcap)
  cA : Own w ⟨L.x, 2, none⟩ (.slice (some ⟨L.ab, 0, none⟩) m.T m.T)
  cL : Own w ⟨L.x, 3, none⟩ L.lv
  cTm : Own w ⟨L.x, 4, none⟩ (.int .i64 m.tm)
  mo : ∀ t, t < m.T → Own w ⟨L.ab, t * 17, none⟩ (.int .i64 (m.mo t))
  pc : ∀ t h g, t < m.T → h < 4 → g < 4 → Own w ⟨L.ab, t * 17 + 1 + h * 4 + g, none⟩ (.int .i64 (m.pc t h g))
  ld : w.ownsRow 0 128 5 L.lv m.ld.length (ldCells m.ld)
  n1 : L.x ≠ L.ab
  n4 : L.lv.ownBlock ≠ some L.x
  n5 : L.lv.ownBlock ≠ some L.ab

theorem PRep.keep {S : List Nat} {w w' : World} {L : PL} {m : Mk} (h : PRep w L m) (k : Keeps S w w') (hs : ∀ b, b ∈ L.fp → b ∉ S) : PRep w' L m := by
  have a1 : L.x ∉ S := hs _ (by simp [PL.fp])
  have a2 : L.ab ∉ S := hs _ (by simp [PL.fp])
  exact ⟨h.cG.keep k a1, h.cR.keep k a1, h.cA.keep k a1, h.cL.keep k a1, h.cTm.keep k a1, fun t ht => (h.mo t ht).keep k a2, fun t i g ht hi hg => (h.pc t i g ht hi hg).keep k a2,
    ownsRow_keep h.ld k (fun g hg => hs g (by simp [PL.fp, hg])), h.n1, h.n4, h.n5⟩

theorem PRep.lt {w : World} {L : PL} {m : Mk} (h : PRep w L m) (T1 : 1 ≤ m.T) : ∀ b, b ∈ L.fp → b < w.heap.size := by
  intro b hb
  simp only [PL.fp, List.mem_append, List.mem_cons, List.not_mem_nil, or_false, Option.mem_toList] at hb
  rcases hb with (rfl | rfl) | hb
  · exact h.cG.lt
  · exact (h.mo 0 (by omega)).lt
  · exact (h.ld.lt b hb).2

theorem off_inj {t a t' a' : Nat} (ha : a < 17) (ha' : a' < 17) (h : t * 17 + a = t' * 17 + a') : t = t' ∧ a = a' := by omega
theorem off_mo_pc {t h g t' : Nat} (hh : h < 4) (hg : g < 4) : t * 17 + 1 + h * 4 + g ≠ t' * 17 := fun q => by
  have := off_inj (t := t) (a := 1 + h * 4 + g) (t' := t') (a' := 0) (by omega) (by omega) (by omega)
  omega
theorem off_pc {t h g t' h' g' : Nat} (hh : h < 4) (hg : g < 4) (hh' : h' < 4) (hg' : g' < 4) (q : t * 17 + 1 + h * 4 + g = t' * 17 + 1 + h' * 4 + g') : t = t' ∧ h = h' ∧ g = g' := by
  have := off_inj (t := t) (a := 1 + h * 4 + g) (t' := t') (a' := 1 + h' * 4 + g') (by omega) (by omega) (by omega)
  omega

theorem PRep.setMo {w : World} {L : PL} {m : Mk} (h : PRep w L m) (k : Nat) (hk : k < m.T) (x : Int) : PRep (w.setCell ⟨L.ab, k * 17, none⟩ (.int .i64 x)) L (m.setMo k x) := by
  have oc : ∀ {o : Nat} {v : Value}, Own w ⟨L.x, o, none⟩ v → Own (w.setCell ⟨L.ab, k * 17, none⟩ (.int .i64 x)) ⟨L.x, o, none⟩ v := fun hv => hv.set_other (by simp [h.n1]) rfl rfl _
  refine ⟨oc h.cG, oc h.cR, oc h.cA, oc h.cL, oc h.cTm, fun t ht => ?_, fun t i g ht hi hg => (h.pc t i g ht hi hg).set_other (by intro q; injection q with _ q _; exact off_mo_pc hi hg q) rfl rfl _,
    ownsRow_setCell_other h.ld h.n5 _, h.n1, h.n4, h.n5⟩
  by_cases e : t = k
  · subst e
    simpa [Mk.setMo] using (h.mo t hk).set rfl (.int .i64 x)
  · simpa [Mk.setMo, e] using (h.mo t ht).set_other (q := ⟨L.ab, k * 17, none⟩) (by intro q; injection q with _ q _; omega) rfl rfl (.int .i64 x)

theorem PRep.setPc {w : World} {L : PL} {m : Mk} (h : PRep w L m) (t i g : Nat) (ht : t < m.T) (hi : i < 4) (hg : g < 4) (x : Int) : PRep (w.setCell ⟨L.ab, t * 17 + 1 + i * 4 + g, none⟩ (.int .i64 x)) L (m.setPc t i g x) := by
  have oc : ∀ {o : Nat} {v : Value}, Own w ⟨L.x, o, none⟩ v → Own (w.setCell ⟨L.ab, t * 17 + 1 + i * 4 + g, none⟩ (.int .i64 x)) ⟨L.x, o, none⟩ v := fun hv => hv.set_other (by simp [h.n1]) rfl rfl _
  refine ⟨oc h.cG, oc h.cR, oc h.cA, oc h.cL, oc h.cTm, fun t ht => (h.mo t ht).set_other (by intro q; injection q with _ q _; exact off_mo_pc hi hg q.symm) rfl rfl _, fun t' i' g' ht' hi' hg' => ?_,
    ownsRow_setCell_other h.ld h.n5 _, h.n1, h.n4, h.n5⟩
  by_cases e : t' = t ∧ i' = i ∧ g' = g
  · obtain ⟨rfl, rfl, rfl⟩ := e
    simpa [Mk.setPc] using (h.pc t' i' g' ht hi hg).set rfl (.int .i64 x)
  · have := (h.pc t' i' g' ht' hi' hg').set_other (q := ⟨L.ab, t * 17 + 1 + i * 4 + g, none⟩) (by intro q; injection q with _ q _; exact e (off_pc hi' hg' hi hg q)) rfl rfl (.int .i64 x)
    simpa [Mk.setPc, e] using this

theorem PRep.setTm {w : World} {L : PL} {m : Mk} (h : PRep w L m) (x : Int) : PRep (w.setCell ⟨L.x, 4, none⟩ (.int .i64 x)) L { m with tm := x } := by
  have oc : ∀ {o : Nat} {v : Value}, o ≠ 4 → Own w ⟨L.x, o, none⟩ v → Own (w.setCell ⟨L.x, 4, none⟩ (.int .i64 x)) ⟨L.x, o, none⟩ v := fun ho hv => hv.set_other (by intro q; injection q with _ q _; exact ho q) rfl rfl _
  exact ⟨oc (by decide) h.cG, oc (by decide) h.cR, oc (by decide) h.cA, oc (by decide) h.cL, h.cTm.set rfl _, fun t ht => (h.mo t ht).set_other (by intro q; injection q with q _ _; exact h.n1 q.symm) rfl rfl _,
    fun t i g ht hi hg => (h.pc t i g ht hi hg).set_other (by intro q; injection q with q _ _; exact h.n1 q.symm) rfl rfl _, ownsRow_setCell_other h.ld h.n4 _, h.n1, h.n4, h.n5⟩

theorem PRep.setLd' {w w1 : World} {L : PL} {m : Mk} (h : PRep w L m) (k : Keeps L.lv.ownBlock.toList w w1) (ls : List Ld) (v : Value) (hr : w1.ownsRow 0 128 5 v ls.length (ldCells ls)) (h4 : v.ownBlock ≠ some L.x) (h5 : v.ownBlock ≠ some L.ab) :
    PRep (w1.setCell ⟨L.x, 3, none⟩ v) { L with lv := v } { m with ld := ls } := by
  have a1 : L.x ∉ L.lv.ownBlock.toList := by simpa using h.n4
  have a2 : L.ab ∉ L.lv.ownBlock.toList := by simpa using h.n5
  have oc : ∀ {o : Nat} {u : Value}, o ≠ 3 → Own w ⟨L.x, o, none⟩ u → Own (w1.setCell ⟨L.x, 3, none⟩ v) ⟨L.x, o, none⟩ u := fun ho hv => (hv.keep k a1).set_other (by intro q; injection q with _ q _; exact ho q) rfl rfl _
  exact ⟨oc (by decide) h.cG, oc (by decide) h.cR, oc (by decide) h.cA, (h.cL.keep k a1).set rfl _, oc (by decide) h.cTm, fun t ht => ((h.mo t ht).keep k a2).set_other (by intro q; injection q with q _ _; exact h.n1 q.symm) rfl rfl _,
    fun t i g ht hi hg => ((h.pc t i g ht hi hg).keep k a2).set_other (by intro q; injection q with q _ _; exact h.n1 q.symm) rfl rfl _, ownsRow_setCell_other hr h4 _, h.n1, h4, h5⟩

/-- What a call on the program's market leaves. -/
structure PPost (w : World) (L : PL) (m' : Mk) (w' : World) : Prop where
  kp : Keeps L.fp w w'
  rep : ∃ L', L'.x = L.x ∧ (∀ b, b ∈ L'.fp → b ∈ L.fp ∨ w.heap.size ≤ b) ∧ PRep w' L' m'

theorem PPost.same {w w' : World} {L : PL} {m : Mk} {S : List Nat} (h : PRep w L m) (k : Keeps S w w') (hs : ∀ b, b ∈ L.fp → b ∉ S) (hs2 : ∀ b, b ∈ S → w.heap.size ≤ b) : PPost w L m w' :=
  ⟨k.mono fun i hi => .inr (hs2 i hi), L, rfl, fun _ hb => .inl hb, h.keep k hs⟩

theorem PPost.mo {w w1 : World} {L : PL} {m : Mk} (R : PRep w L m) (K : Keeps [] w w1) (k : Nat) (hk : k < m.T) (x : Int) : PPost w L (m.setMo k x) (w1.setCell ⟨L.ab, k * 17, none⟩ (.int .i64 x)) :=
  ⟨(K.mono (by simp)).setCell (by simp [PL.fp]) _, L, rfl, fun _ hb => .inl hb, (R.keep K (by simp)).setMo k hk x⟩

theorem PPost.pcs {w w1 : World} {L : PL} {m : Mk} (R : PRep w L m) (K : Keeps [] w w1) (t h g : Nat) (ht : t < m.T) (hh : h < 4) (hg : g < 4) (x : Int) :
    PPost w L (m.setPc t h g x) (w1.setCell ⟨L.ab, t * 17 + 1 + h * 4 + g, none⟩ (.int .i64 x)) :=
  ⟨(K.mono (by simp)).setCell (by simp [PL.fp]) _, L, rfl, fun _ hb => .inl hb, (R.keep K (by simp)).setPc t h g ht hh hg x⟩

theorem PPost.later {w w1 w2 : World} {L : PL} {m : Mk} (h : PPost w L m w1) (k : Keeps [] w1 w2) : PPost w L m w2 :=
  ⟨h.kp.trans' k (by simp), by obtain ⟨L', h1, h2, h3⟩ := h.rep; exact ⟨L', h1, h2, h3.keep k (by simp)⟩⟩

theorem within_yes (n a b : Int) (w : World) (h : a ≤ n ∧ n ≤ b) : Calls Try.prog 64 #[.int .i64 n, .int .i64 a, .int .i64 b] w fun e w' => e = .returned (.bool true) ∧ w' = w := by
  obtain ⟨h1, h2⟩ := h
  go_enter Try.func64, Try.ntmps64
  go_wp2
  go_ret
  exact ⟨by simp, rfl⟩
theorem within_no (n a b : Int) (w : World) (h : ¬ (a ≤ n ∧ n ≤ b)) : Calls Try.prog 64 #[.int .i64 n, .int .i64 a, .int .i64 b] w fun e w' => e = .returned (.bool false) ∧ w' = w := by
  go_enter Try.func64, Try.ntmps64
  go_wp2
  all_goals go_ret
  all_goals refine ⟨?_, rfl⟩
  all_goals simp
  all_goals omega

def inR (n a b : Int) : Bool := decide (a ≤ n ∧ n ≤ b)
theorem within_b (n a b : Int) (w : World) : Calls Try.prog 64 #[.int .i64 n, .int .i64 a, .int .i64 b] w fun e w' => e = .returned (.bool (inR n a b)) ∧ w' = w := by
  cases h : inR n a b
  · exact within_no n a b w (of_decide_eq_false h)
  · exact within_yes n a b w (of_decide_eq_true h)

theorem hasTrader_b (w : World) (x ab T cap : Nat) (i : Int) (hT : T ≤ 8) (h0 : w.cell? ⟨x, 2, none⟩ = some (.slice (some ⟨ab, 0, none⟩) T cap)) :
    Calls Try.prog 57 #[.pointer (some ⟨x, 0, none⟩), .int .i64 i] w fun e w' => e = .returned (.bool (inB T i)) ∧ w' = w := by
  have e : Hid (inR i 0 ((T : Int) - 1) = inB T i) := hide (by simp only [inR, inB, okI]; exact decide_eq_decide.2 (by omega))
  go_enter Try.func57, Try.ntmps57
  go_wp2_with (go_at_call 64; refine (within_b _ _ _ _).mono ?_; rintro e w' ⟨rfl, rfl⟩)
  go_ret
  exact ⟨by rw [← e.out]; rfl, rfl⟩

theorem hasHall_b (w : World) (x H cap : Nat) (a : Option Addr) (i : Int) (hT : H ≤ 8) (h0 : w.cell? ⟨x, 1, none⟩ = some (.slice a H cap)) :
    Calls Try.prog 73 #[.pointer (some ⟨x, 0, none⟩), .int .i64 i] w fun e w' => e = .returned (.bool (inB H i)) ∧ w' = w := by
  have e : Hid (inR i 0 ((H : Int) - 1) = inB H i) := hide (by simp only [inR, inB, okI]; exact decide_eq_decide.2 (by omega))
  go_enter Try.func73, Try.ntmps73
  go_wp2_with (go_at_call 64; refine (within_b _ _ _ _).mono ?_; rintro e w' ⟨rfl, rfl⟩)
  go_ret
  exact ⟨by rw [← e.out]; rfl, rfl⟩

theorem hasGood_b (w : World) (x G : Nat) (i : Int) (hT : G ≤ 8) (h0 : w.cell? ⟨x, 0, none⟩ = some (.int .i64 G)) :
    Calls Try.prog 74 #[.pointer (some ⟨x, 0, none⟩), .int .i64 i] w fun e w' => e = .returned (.bool (inB G i)) ∧ w' = w := by
  have e : Hid (inR i 0 ((G : Int) - 1) = inB G i) := hide (by simp only [inR, inB, okI]; exact decide_eq_decide.2 (by omega))
  go_enter Try.func74, Try.ntmps74
  go_wp2_with (go_at_call 64; refine (within_b _ _ _ _).mono ?_; rintro e w' ⟨rfl, rfl⟩)
  go_ret
  exact ⟨by rw [← e.out]; rfl, rfl⟩

end Go.Proofs.Ytcbfmolebomkdaa
