/- The document's market: Ship. -/
import Derived.Test.YtcbfmolebomkdaaD
import Derived.Deep.RegionHeld3
import Derived.Deep.RegionLaw
import Derived.Deep.AppendLies
namespace Go.Proofs.Ytcbfmolebomkdaa
open Go.RowKit Go.Sort

theorem info130 : (Try.prog.info? 130).map (fun i => (i.zero, i.size, i.bytes)) = some (some (.agg #[.int .i64 0, .int .i64 0, .int .i64 0, .int .i64 0, .int .i64 0]), 5, 40) := by kernel_rfl

theorem due_lt {tm : Int} {d f : Nat} (h : (d : Int) - f < 0) (b0 : 0 ≤ tm) (b1 : tm ≤ 1000000000) (bf : f ≤ 4) : IntKind.i64.wrap (tm + IntKind.i64.wrap (2 * -((d : Int) - f))) = tm + 2 * far f d := by
  rw [IntWalk.i64_in (2 * -((d : Int) - f)) (by omega), IntWalk.i64_in _ (by omega), far, if_pos (by omega)]
  omega
theorem due_ge {tm : Int} {d f : Nat} (h : 0 ≤ (d : Int) - f) (b0 : 0 ≤ tm) (b1 : tm ≤ 1000000000) (bd : d ≤ 4) : IntKind.i64.wrap (tm + IntKind.i64.wrap (2 * ((d : Int) - f))) = tm + 2 * far f d := by
  rw [IntWalk.i64_in (2 * ((d : Int) - f)) (by omega), IntWalk.i64_in _ (by omega), far, if_neg (by omega)]

theorem RefRep.setLd' {w w1 : World} {L : RL} {m : Mk} (h : RefRep w L m) (k : Keeps L.lv.ownBlock.toList w w1) (ls : List Ld) (v : Value) (hr : w1.ownsRow 0 130 5 v ls.length (ldCells ls)) (h4 : v.ownBlock ≠ some L.c) (h5 : v.ownBlock ≠ some L.mb) (h6 : v.ownBlock ≠ some L.pb) :
    RefRep (w1.setCell ⟨L.c, 6, none⟩ v) { L with lv := v } { m with ld := ls } := by
  have a1 : L.c ∉ L.lv.ownBlock.toList := by simpa using h.n4
  have a2 : L.mb ∉ L.lv.ownBlock.toList := by simpa using h.n5
  have a3 : L.pb ∉ L.lv.ownBlock.toList := by simpa using h.n6
  have oc : ∀ {o : Nat} {u : Value}, o ≠ 6 → Own w ⟨L.c, o, none⟩ u → Own (w1.setCell ⟨L.c, 6, none⟩ v) ⟨L.c, o, none⟩ u := fun ho hv => (hv.keep k a1).set_other (by intro q; injection q with _ q _; exact ho q) rfl rfl _
  exact ⟨oc (by decide) h.cT, oc (by decide) h.cG, oc (by decide) h.cR, oc (by decide) h.cM, oc (by decide) h.cP, oc (by decide) h.cW, (h.cL.keep k a1).set rfl _, oc (by decide) h.cF, oc (by decide) h.cTm, fun t ht => ((h.mo t ht).keep k a2).set_other (by simp [Ne.symm h.n1]) rfl rfl _,
    fun t i g ht hi hg => ((h.pc t i g ht hi hg).keep k a3).set_other (by simp [Ne.symm h.n2]) rfl rfl _, ownsRow_setCell_other hr h4 _, h.n1, h.n2, h.n3, h4, h5, h6⟩

theorem RefRep.lt' {w : World} {L : RL} {m : Mk} (h : RefRep w L m) (T1 : 1 ≤ m.T) (H1 : 1 ≤ m.H) (G1 : 1 ≤ m.G) : L.c < w.heap.size ∧ L.mb < w.heap.size ∧ L.pb < w.heap.size :=
  ⟨h.cT.lt, (h.mo 0 (by omega)).lt, (h.pc 0 0 0 (by omega) (by omega) (by omega)).lt⟩

/-- the loads' slice, grown by one append and stored -/
theorem ship_end {w W2 w1 : World} {L : RL} {m : Mk} {o : Obj} {gg cap : Nat} (K2 : Keeps L.fp w W2) (R2 : RefRep W2 L m) (T1 : 1 ≤ m.T) (H1 : 1 ≤ m.H) (G1 : 1 ≤ m.G) (hgrow : (W2.alloc o).drew.grownBy w1 L.lv.ownBlock) (l : Ld)
    (hown1 : w1.ownsRow 0 130 5 (.slice (some ⟨gg, 0, none⟩) (m.ld.length + 1) cap) (m.ld.length + 1) (ldCells m.ld ++ l.cells)) (hat : L.lv.ownBlock = some gg ∨ gg = W2.heap.size + 1) :
    RefPost w L { m with ld := m.ld ++ [l] } (w1.setCell ⟨L.c, 6, none⟩ (.slice (some ⟨gg, 0, none⟩) (m.ld.length + 1) cap)) := by
  obtain ⟨l1, l2, l3⟩ := R2.lt' T1 H1 G1
  have k1 : Keeps L.lv.ownBlock.toList W2 w1 := (((Keeps.refl _ _).alloc o).drew).grown hgrow (fun k hk => .inl (by simp [hk]))
  refine ⟨(K2.trans' k1 (by intro i hi; exact .inl (by simp only [RL.fp, List.mem_append]; exact .inr hi))).setCell (.inl (by simp [RL.fp])) _, { L with lv := .slice (some ⟨gg, 0, none⟩) (m.ld.length + 1) cap }, rfl, ?_, ?_⟩
  · intro b hb
    simp only [RL.fp, List.mem_append, List.mem_cons, List.not_mem_nil, or_false, Value.ownBlock, Option.mem_toList, Option.some.injEq] at hb ⊢
    rcases hb with hb | hb
    · exact .inl (.inl hb)
    · subst hb
      rcases hat with h | h
      · exact .inl (.inr h)
      · right
        have := K2.size
        omega
  · refine R2.setLd' k1 (m.ld ++ [l]) _ (by simpa [ldCells_append, ldCells] using hown1) ?_ ?_ ?_
    all_goals simp only [Value.ownBlock, ne_eq, Option.some.injEq]
    · rcases hat with h | h
      · have := R2.n4; rw [h] at this; simpa using this
      · omega
    · rcases hat with h | h
      · have := R2.n5; rw [h] at this; simpa using this
      · omega
    · rcases hat with h | h
      · have := R2.n6; rw [h] at this; simpa using this
      · omega

def shipGood (m : Mk) (t f o g n : Int) : Prop := okI m.T t ∧ okI m.H o ∧ f ≠ o ∧ lotsE m t f g n = 0
theorem shipE_good {m : Mk} {t f o g n : Int} (h : shipGood m t f o g n) : shipE m t f o g n = if m.pc t.toNat f.toNat g.toNat < n then 7 else if 20 ≤ m.ld.length then 8 else 0 := by
  obtain ⟨h1, h2, h3, h4⟩ := h
  obtain ⟨_, h5, h6, h7⟩ := lotsE_zero h4
  simp [shipE, h1, h2, h3, h5, h6, h7]

set_option maxHeartbeats 400000 in
theorem refShip_bad (w : World) (L : RL) (m : Mk) (t f o g n : Int) (R : RefRep w L m) (hb : ¬ shipGood m t f o g n) :
    Calls Try.prog 37 #[.pointer (some ⟨L.c, 0, none⟩), .int .i64 t, .int .i64 f, .int .i64 o, .int .i64 g, .int .i64 n] w fun e w' => e = .returned (.int .i64 (shipE m t f o g n)) ∧ RefPost w L (shipM m t f o g n) w' := by
  have c0 := R.cT.cell
  have c2 := R.cR.cell
  have hne : Hid (shipE m t f o g n ≠ 0 ∧ shipE m t f o g n = if ¬ okI m.T t then 2 else if ¬ okI m.H o ∨ f = o then 3 else lotsE m t f g n) := hide (by
    unfold shipGood at hb
    unfold shipE lotsE at *
    by_cases h1 : okI m.T t <;> by_cases h2 : okI m.H o <;> by_cases h3 : f = o <;> by_cases h4 : okI m.H f <;> by_cases h5 : okI m.G g <;> by_cases h6 : okN n 10000 <;> simp_all)
  have hM : Hid (shipM m t f o g n = m) := hide (by simp [shipM, hne.out.1])
  have HL := hide (lots_any w L m t f g n R)
  have hE : Hid (lotsE m t f g n = 0 → okI m.T t → okI m.H o → f = o) := hide (fun h1 h2 h3 => by
    by_cases h : f = o
    · exact h
    · exact absurd ⟨h2, h3, h, h1⟩ hb)
  generalize lotsE m t f g n = E at *
  clear hb
  go_enter Try.func37, Try.ntmps37
  go_wp2_with (first | (go_at_call 55; refine (trader_b _ _ _ _ c0).mono ?_; rintro e w' ⟨rfl, rfl⟩) | (go_at_call 76; refine (hall_b _ _ _ _ _ _ c2).mono ?_; rintro e w' ⟨rfl, rfl⟩) | (go_at_call 71; refine HL.out.mono ?_; rintro e w' ⟨rfl, rfl⟩))
  case' _ => skip
  all_goals first
    | exact absurd (hE.out (by simpa using ‹(E != 0) = false›) (inB_true (by simpa using ‹(!inB m.T t) = false›)) (inB_true ‹inB m.H o = true›)) (by simpa using ‹(f == o) = false›)
    | (go_ret; refine ⟨ret_int ?_, by rw [hM.out]; exact .same R (Keeps.refl [] _) (by simp) (by simp)⟩; rw [hne.out.2]; clear c0 c2 R; simp_all [inB]; done)

set_option maxHeartbeats 1000000 in
theorem refShip_good (w : World) (L : RL) (m : Mk) (N : Int) (t f d g : Nat) (n : Int) (R : RefRep w L m) (ok : m.Ok N) (hb : shipGood m t f d g n) :
    Calls Try.prog 37 #[.pointer (some ⟨L.c, 0, none⟩), .int .i64 t, .int .i64 f, .int .i64 d, .int .i64 g, .int .i64 n] w fun e w' => e = .returned (.int .i64 (shipE m t f d g n)) ∧ RefPost w L (shipM m t f d g n) w' := by
  have HE := hide (shipE_good hb)
  have c0 := R.cT.cell
  have c2 := R.cR.cell
  have HL := hide (lots_any w L m t f g n R)
  obtain ⟨⟨_, t1⟩, ⟨_, d1⟩, hne, hl⟩ := hb
  rw [hl] at HL
  obtain ⟨_, ⟨_, f1⟩, ⟨_, g1⟩, ⟨n0, n1⟩⟩ := lotsE_zero hl
  clear hl
  have ht : t < m.T := by omega
  have hf : f < m.H := by omega
  have hd : d < m.H := by omega
  have hg : g < m.G := by omega
  have bT := ok.T8
  have bG := ok.G4
  have bH := ok.H4
  have i1 : inB m.T t = true := decide_eq_true ⟨by omega, t1⟩
  have i2 : inB m.H d = true := decide_eq_true ⟨by omega, d1⟩
  have i3 : ((f : Int) == (d : Int)) = false := beq_eq_false_iff_ne.2 hne
  by_cases hS : m.pc t f g < n
  · have e : Hid (shipE m t f d g n = 7) := hide (by rw [HE.out]; simp [hS])
    go_enter Try.func37, Try.ntmps37
    go_wp2_with (first | (go_at_call 55; refine (trader_b _ _ _ _ c0).mono ?_; rw [i1]; rintro e w' ⟨rfl, rfl⟩) | (go_at_call 76; refine (hall_b _ _ _ _ _ _ c2).mono ?_; rw [i2]; rintro e w' ⟨rfl, rfl⟩) | (go_at_call 71; refine HL.out.mono ?_; rintro e w' ⟨rfl, rfl⟩))
    refine (spare_any _ L m N R ok t f g ht hf hg).mono ?_
    rintro e w' ⟨rfl, nd, rfl⟩
    go_wp2
    go_ret
    exact ⟨ret_int e.out.symm, by rw [shipM, e.out]; exact .same R ((Keeps.refl [] _).drewN _) (by simp) (by simp)⟩
  · obtain ⟨la, lc, hlv⟩ : ∃ a c, L.lv = .slice a m.ld.length c := by
      rcases R.ld.2 with ⟨h1, h2⟩ | ⟨_, _, _, h1, _⟩
      · exact ⟨none, 0, by rw [h1, h2]⟩
      · exact ⟨_, _, h1⟩
    have c6 := R.cL.cell
    rw [hlv] at c6
    by_cases h20 : 20 ≤ m.ld.length
    · have e : Hid (shipE m t f d g n = 8) := hide (by rw [HE.out]; simp [hS, h20])
      go_enter Try.func37, Try.ntmps37
      go_wp2_with (first | (go_at_call 55; refine (trader_b _ _ _ _ c0).mono ?_; rw [i1]; rintro e w' ⟨rfl, rfl⟩) | (go_at_call 76; refine (hall_b _ _ _ _ _ _ c2).mono ?_; rw [i2]; rintro e w' ⟨rfl, rfl⟩) | (go_at_call 71; refine HL.out.mono ?_; rintro e w' ⟨rfl, rfl⟩))
      refine (spare_any _ L m N R ok t f g ht hf hg).mono ?_
      rintro e w' ⟨rfl, nd, rfl⟩
      go_wp2
      go_ret
      exact ⟨ret_int e.out.symm, by rw [shipM, e.out]; exact .same R ((Keeps.refl [] _).drewN _) (by simp) (by simp)⟩
    · have e : Hid (shipE m t f d g n = 0) := hide (by rw [HE.out]; simp [hS, h20])
      go_enter Try.func37, Try.ntmps37
      go_wp2_with (first | (go_at_call 55; refine (trader_b _ _ _ _ c0).mono ?_; rw [i1]; rintro e w' ⟨rfl, rfl⟩) | (go_at_call 76; refine (hall_b _ _ _ _ _ _ c2).mono ?_; rw [i2]; rintro e w' ⟨rfl, rfl⟩) | (go_at_call 71; refine HL.out.mono ?_; rintro e w' ⟨rfl, rfl⟩))
      refine (spare_any _ L m N R ok t f g ht hf hg).mono ?_
      rintro e W ⟨rfl, nd, rfl⟩
      go_wp2_with fail
      refine (lot_nat _ L m N (R.keep ((Keeps.refl [] _).drewN nd) (by simp)) ok t f g ht hf hg).mono ?_
      rintro e w' ⟨rfl, nd', rfl⟩
      have c4 := R.cP.cell
      obtain ⟨cm, cf⟩ := R.pc t f g ht hf hg
      obtain ⟨bm0, bm1⟩ := ok.pc t f g ht hf hg
      have bN := ok.bN
      have hlt := lot_lt ht hf hg
      generalize hk : (t * m.H + f) * m.G + g = k at *
      have HK := hide hk
      clear hk
      generalize m.T * m.G * m.H = TT at *
      go_wp2
      go_region
      all_goals go_wp2
      all_goals
        obtain ⟨W2, hW2⟩ : ∃ W2, W2 = (w'.drewN (nd + nd' + 1)).setCell ⟨L.pb, k, none⟩ (.int .i64 (m.pc t f g - n)) := ⟨_, rfl⟩
        rw [← hW2]
        have K2 : Keeps L.fp w' W2 := by rw [hW2]; exact ((Keeps.refl _ _).drewN _).setCell (by simp [RL.fp]) _
        have R2 : RefRep W2 L (m.setPc t f g (m.pc t f g - n)) := by rw [hW2, ← HK.out]; exact (R.keep ((Keeps.refl [] _).drewN _) (by simp)).setPc t f g ht hf hg _
        have HR := hide R2
        obtain ⟨b6, f6⟩ := R2.cL
        rw [hlv] at b6
        have b12 : W2.cell? ⟨L.c, 12, none⟩ = some (.int .i64 m.tm) := R2.cTm.cell
        have hown : W2.ownsRow 0 130 5 L.lv m.ld.length (ldCells m.ld) := R2.ld
        have q4 := R2.n4
        have q5 := R2.n5
        have q6 := R2.n6
        rw [hlv] at hown q4 q5 q6
        have fa : ∀ o, (W2.alloc o).frozen? ⟨L.c, 6, none⟩ = false := fun o => (R2.cL.keep (S := []) ((Keeps.refl _ _).alloc o) (by simp)).free
        clear hW2 c0 c2 c4 cm cf c6
        obtain ⟨i0, hi0, hz0, hz1, hz2⟩ := info_parts info130
        have lc6 : L.c < W2.heap.size := World.block_lt_of_cell? W2 _ b6
        obtain ⟨tm0, tm1⟩ := ok.tm
        have ca : ∀ o, (W2.alloc o).cell? ⟨L.c, 6, none⟩ = some (.slice la m.ld.length lc) := fun o => hlv ▸ (R2.cL.keep (S := []) ((Keeps.refl _ _).alloc o) (by simp)).cell
        clear R2
        go_region_law
          ((refine step_append_lies _ (by rfl) _ _ _ (by rfl) 0 130 i0 _ 5 40 Try.underlying89 hi0 hz0 hz1 hz2 rfl (by omega) (.slice la m.ld.length lc) m.ld.length (ldCells m.ld) (by rfl) ((hown.alloc _).drew)
              ⟨W2.heap.size, 0, none⟩ 1 1 _ (by rfl) (by rfl) (World.news_of_block (cs := #[_, _, _, _, _]) (t := 130) (fr := (0, 0)) (heap_alloc_new W2 _)) (by simp [Value.oneCell'])
              (by omega) (by simp [maxLen]; omega) (by omega) (by simp) (W2.heap.size + 1) (by simp) ?_; intro gg cap w1 hown1 hgrow hat hlt; have z6 : w1.cell? ⟨L.c, 6, none⟩ = some (.slice la m.ld.length lc) := (by rw [hgrow.cell_far _ (by simp; omega) (Ne.symm q4)]; exact ca _); have z7 : w1.frozen? ⟨L.c, 6, none⟩ = false := (by rw [hgrow.frozen_far _ (by simp; omega) (Ne.symm q4)]; exact fa _)))
        all_goals go_wp2
        all_goals go_ret
        all_goals
          refine ⟨ret_int e.out.symm, ?_⟩
          rw [shipM, e.out]
          refine ship_end (m := m.setPc t f g (m.pc t f g - n)) K2 HR.out ok.T1 ok.H1 ok.G1 (hlv ▸ hgrow) ⟨t, d, g, n, m.tm + 2 * far f d⟩ ?_ (hlv ▸ hat)
          first
            | (rw [due_lt ‹(d : Int) - f < 0› tm0 tm1 (by omega)] at hown1; exact hown1)
            | (rw [due_ge ‹0 ≤ (d : Int) - f› tm0 tm1 (by omega)] at hown1; exact hown1)

theorem refShip_any (w : World) (L : RL) (m : Mk) (N t f o g n : Int) (R : RefRep w L m) (ok : m.Ok N) :
    Calls Try.prog 37 #[.pointer (some ⟨L.c, 0, none⟩), .int .i64 t, .int .i64 f, .int .i64 o, .int .i64 g, .int .i64 n] w fun e w' => e = .returned (.int .i64 (shipE m t f o g n)) ∧ RefPost w L (shipM m t f o g n) w' := by
  by_cases hb : shipGood m t f o g n
  · have hb' := hb
    obtain ⟨⟨t0, _⟩, ⟨o0, _⟩, _, hl⟩ := hb'
    obtain ⟨_, ⟨f0, _⟩, ⟨g0, _⟩, _⟩ := lotsE_zero hl
    obtain ⟨t, rfl⟩ := Int.eq_ofNat_of_zero_le t0
    obtain ⟨f, rfl⟩ := Int.eq_ofNat_of_zero_le f0
    obtain ⟨g, rfl⟩ := Int.eq_ofNat_of_zero_le g0
    obtain ⟨o, rfl⟩ := Int.eq_ofNat_of_zero_le o0
    exact refShip_good w L m N t f o g n R ok hb
  · exact refShip_bad w L m t f o g n R hb

end Go.Proofs.Ytcbfmolebomkdaa
