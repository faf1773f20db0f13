/- The program's market: Ship. -/
import Derived.Test.YtcbfmolebomkdaaR
import Derived.Test.YtcbfmolebomkdaaE
namespace Go.Proofs.Ytcbfmolebomkdaa
open Go.RowKit Go.Sort

theorem info128 : (Try.prog.info? 128).map (fun i => (i.zero, i.size, i.bytes)) = some (some (.agg #[.int .i64 0, .int .i64 0, .int .i64 0, .int .i64 0, .int .i64 0]), 5, 40) := by kernel_rfl

/-- the cells of a block that was laid last -/
theorem news_of_last' {W : World} (X : Array Value) (t : TypeId) {B : Nat} (hB : B = W.heap.size) : ∀ j u, X.toList[j]? = some u → (W.alloc (.cells X t)).cell? ((⟨B, 0, none⟩ : Addr).add j) = some u := by
  subst hB
  exact World.news_of_block (heap_alloc_new W _)
theorem Ld.oneCell' (l : Ld) : ∀ u, u ∈ l.cells → u.oneCell' = true := by simp [Ld.cells, Value.oneCell']

/-- the loads' slice, grown by one append and stored -/
theorem pship_end {w W2 w0 w1 : World} {L : PL} {m : Mk} {gg cap : Nat} (K2 : Keeps L.fp w W2) (R2 : PRep W2 L m) (T1 : 1 ≤ m.T) (k0 : Keeps [] W2 w0) (hgrow : w0.grownBy w1 L.lv.ownBlock) (l : Ld)
    (hown1 : w1.ownsRow 0 128 5 (.slice (some ⟨gg, 0, none⟩) (m.ld.length + 1) cap) (m.ld.length + 1) (ldCells m.ld ++ l.cells)) (hat : L.lv.ownBlock = some gg ∨ gg = W2.heap.size + 1) :
    PPost w L { m with ld := m.ld ++ [l] } (w1.setCell ⟨L.x, 3, none⟩ (.slice (some ⟨gg, 0, none⟩) (m.ld.length + 1) cap)) := by
  have l1 := R2.lt T1 L.x (by simp [PL.fp])
  have l2 := R2.lt T1 L.ab (by simp [PL.fp])
  have k1 : Keeps L.lv.ownBlock.toList W2 w1 := (k0.mono (by simp)).grown hgrow (fun k hk => .inl (by simp [hk]))
  refine ⟨(K2.trans' k1 (by intro i hi; exact .inl (by simp only [PL.fp, List.mem_append]; exact .inr hi))).setCell (.inl (by simp [PL.fp])) _, { L with lv := .slice (some ⟨gg, 0, none⟩) (m.ld.length + 1) cap }, rfl, ?_, ?_⟩
  · intro b hb
    simp only [PL.fp, List.mem_append, List.mem_cons, List.not_mem_nil, or_false, Value.ownBlock, Option.mem_toList, Option.some.injEq] at hb ⊢
    rcases hb with hb | hb
    · exact .inl (.inl hb)
    · subst hb
      rcases hat with h | h
      · exact .inl (.inr h)
      · right
        have := K2.size
        omega
  · refine R2.setLd' k1 (m.ld ++ [l]) _ (by simpa [ldCells_append, ldCells] using hown1) ?_ ?_
    all_goals simp only [Value.ownBlock, ne_eq, Option.some.injEq]
    · rcases hat with h | h
      · have := R2.n4; rw [h] at this; simpa using this
      · omega
    · rcases hat with h | h
      · have := R2.n5; rw [h] at this; simpa using this
      · omega

theorem distance_any (a b : Nat) (w : World) (ha : a ≤ 4) (hb : b ≤ 4) : Calls Try.prog 75 #[.int .i64 a, .int .i64 b] w fun e w' => e = .returned (.int .i64 (far a b)) ∧ w' = w := by
  go_enter Try.func75, Try.ntmps75
  go_wp2
  all_goals go_ret
  all_goals refine ⟨ret_int ?_, rfl⟩
  all_goals unfold far
  all_goals split <;> omega

set_option maxHeartbeats 400000 in
theorem progShip_bad (w : World) (L : PL) (m : Mk) (N t f o g n : Int) (R : PRep w L m) (ok : m.Ok N) (hb : ¬ shipGood m t f o g n) :
    Calls Try.prog 36 #[.pointer (some ⟨L.x, 0, none⟩), .int .i64 t, .int .i64 f, .int .i64 o, .int .i64 g, .int .i64 n] w fun e w' => e = .returned (.int .i64 (shipE m t f o g n)) ∧ PPost w L (shipM m t f o g n) w' := by
  have c0 := R.cG.cell
  have c1 := R.cR.cell
  have c2 := R.cA.cell
  have bT := ok.T8
  have bG : m.G ≤ 8 := by have := ok.G4; omega
  have bH : m.H ≤ 8 := by have := ok.H4; omega
  by_cases h1 : okI m.T t
  · have i1 := hide (inB_okI h1)
    by_cases h2 : okI m.H f
    · have i2 := hide (inB_okI h2)
      by_cases h3 : okI m.H o
      · have i3 := hide (inB_okI h3)
        by_cases h4 : f = o
        · have i4 : (f == o) = true := beq_iff_eq.2 h4
          have e : Hid (shipE m t f o g n = 3) := hide (by simp [shipE, h1, h3, h4])
          go_enter Try.func36, Try.ntmps36
          go_wp2_with (first | (go_at_call 57; refine (hasTrader_b _ _ _ _ _ _ bT c2).mono ?_; rw [i1.out]; rintro e w' ⟨rfl, rfl⟩) | (go_at_call 73; refine (hasHall_b _ _ _ _ _ _ bH c1).mono ?_; (first | rw [i2.out] | rw [i3.out]); rintro e w' ⟨rfl, rfl⟩))
          go_ret
          exact ⟨ret_int e.out.symm, by rw [shipM, e.out]; exact .same R (Keeps.refl [] _) (by simp) (by simp)⟩
        · have i4 : (f == o) = false := beq_eq_false_iff_ne.2 h4
          by_cases h5 : okI m.G g
          · have i5 := hide (inB_okI h5)
            by_cases h6 : okN n 10000
            · exact absurd ⟨h1, h3, h4, by simp [lotsE, h1, h2, h5, h6]⟩ hb
            · have i6 := hide (inR_not h6)
              have e : Hid (shipE m t f o g n = 5) := hide (by simp [shipE, h1, h2, h3, h4, h5, h6])
              go_enter Try.func36, Try.ntmps36
              go_wp2_with (first | (go_at_call 57; refine (hasTrader_b _ _ _ _ _ _ bT c2).mono ?_; rw [i1.out]; rintro e w' ⟨rfl, rfl⟩) | (go_at_call 73; refine (hasHall_b _ _ _ _ _ _ bH c1).mono ?_; (first | rw [i2.out] | rw [i3.out]); rintro e w' ⟨rfl, rfl⟩) | (go_at_call 74; refine (hasGood_b _ _ _ _ bG c0).mono ?_; rw [i5.out]; rintro e w' ⟨rfl, rfl⟩) | (go_at_call 64; refine (within_b _ _ _ _).mono ?_; rw [i6.out]; rintro e w' ⟨rfl, rfl⟩))
              go_ret
              exact ⟨ret_int e.out.symm, by rw [shipM, e.out]; exact .same R (Keeps.refl [] _) (by simp) (by simp)⟩
          · have i5 := hide (inB_not h5)
            have e : Hid (shipE m t f o g n = 4) := hide (by simp [shipE, h1, h2, h3, h4, h5])
            go_enter Try.func36, Try.ntmps36
            go_wp2_with (first | (go_at_call 57; refine (hasTrader_b _ _ _ _ _ _ bT c2).mono ?_; rw [i1.out]; rintro e w' ⟨rfl, rfl⟩) | (go_at_call 73; refine (hasHall_b _ _ _ _ _ _ bH c1).mono ?_; (first | rw [i2.out] | rw [i3.out]); rintro e w' ⟨rfl, rfl⟩) | (go_at_call 74; refine (hasGood_b _ _ _ _ bG c0).mono ?_; rw [i5.out]; rintro e w' ⟨rfl, rfl⟩))
            go_ret
            exact ⟨ret_int e.out.symm, by rw [shipM, e.out]; exact .same R (Keeps.refl [] _) (by simp) (by simp)⟩
      · have i3 := hide (inB_not h3)
        have e : Hid (shipE m t f o g n = 3) := hide (by simp [shipE, h1, h2, h3])
        go_enter Try.func36, Try.ntmps36
        go_wp2_with (first | (go_at_call 57; refine (hasTrader_b _ _ _ _ _ _ bT c2).mono ?_; rw [i1.out]; rintro e w' ⟨rfl, rfl⟩) | (go_at_call 73; refine (hasHall_b _ _ _ _ _ _ bH c1).mono ?_; (first | rw [i2.out] | rw [i3.out]); rintro e w' ⟨rfl, rfl⟩))
        go_ret
        exact ⟨ret_int e.out.symm, by rw [shipM, e.out]; exact .same R (Keeps.refl [] _) (by simp) (by simp)⟩
    · have i2 := hide (inB_not h2)
      have e : Hid (shipE m t f o g n = 3) := hide (by simp [shipE, h1, h2])
      go_enter Try.func36, Try.ntmps36
      go_wp2_with (first | (go_at_call 57; refine (hasTrader_b _ _ _ _ _ _ bT c2).mono ?_; rw [i1.out]; rintro e w' ⟨rfl, rfl⟩) | (go_at_call 73; refine (hasHall_b _ _ _ _ _ _ bH c1).mono ?_; rw [i2.out]; rintro e w' ⟨rfl, rfl⟩))
      go_ret
      exact ⟨ret_int e.out.symm, by rw [shipM, e.out]; exact .same R (Keeps.refl [] _) (by simp) (by simp)⟩
  · have i1 := hide (inB_not h1)
    have e : Hid (shipE m t f o g n = 2) := hide (by simp [shipE, h1])
    go_enter Try.func36, Try.ntmps36
    go_wp2_with (first | (go_at_call 57; refine (hasTrader_b _ _ _ _ _ _ bT c2).mono ?_; rw [i1.out]; rintro e w' ⟨rfl, rfl⟩))
    go_ret
    exact ⟨ret_int e.out.symm, by rw [shipM, e.out]; exact .same R (Keeps.refl [] _) (by simp) (by simp)⟩

set_option maxRecDepth 100000 in
set_option maxHeartbeats 1000000 in
theorem progShip_good (w : World) (L : PL) (m : Mk) (N : Int) (t f d g : Nat) (n : Int) (R : PRep w L m) (ok : m.Ok N) (hb : shipGood m t f d g n) :
    Calls Try.prog 36 #[.pointer (some ⟨L.x, 0, none⟩), .int .i64 t, .int .i64 f, .int .i64 d, .int .i64 g, .int .i64 n] w fun e w' => e = .returned (.int .i64 (shipE m t f d g n)) ∧ PPost w L (shipM m t f d g n) w' := by
  have HE := hide (shipE_good hb)
  have c0 := R.cG.cell
  have c1 := R.cR.cell
  have c2 := R.cA.cell
  have bT := ok.T8
  have bG : m.G ≤ 8 := by have := ok.G4; omega
  have bH : m.H ≤ 8 := by have := ok.H4; omega
  obtain ⟨k1, k3, hne, hl⟩ := hb
  obtain ⟨_, k2, k5, k6⟩ := lotsE_zero hl
  clear hl
  have i1 := hide (inB_okI k1)
  have i2 := hide (inB_okI k2)
  have i3 := hide (inB_okI k3)
  have i5 := hide (inB_okI k5)
  have i6 := hide (inR_okN k6)
  obtain ⟨_, t1⟩ := k1
  obtain ⟨_, f1⟩ := k2
  obtain ⟨_, d1⟩ := k3
  obtain ⟨_, g1⟩ := k5
  obtain ⟨n0, n1⟩ := k6
  have ht : t < m.T := by omega
  have bH4 := ok.H4
  have bG4 := ok.G4
  have hf : f < 4 := by omega
  have hd : d < 4 := by omega
  have hg : g < 4 := by omega
  have i4 : ((f : Int) == (d : Int)) = false := beq_eq_false_iff_ne.2 hne
  obtain ⟨cm, cf⟩ := R.pc t f g ht hf hg
  obtain ⟨bm0, bm1⟩ := ok.pc t f g ht (by omega) (by omega)
  have bN := ok.bN
  obtain ⟨la, lc, hlv⟩ : ∃ a c, L.lv = .slice a m.ld.length c := by
    rcases R.ld.2 with ⟨h1, h2⟩ | ⟨_, _, _, h1, _⟩
    · exact ⟨none, 0, by rw [h1, h2]⟩
    · exact ⟨_, _, h1⟩
  have c3 := R.cL.cell
  rw [hlv] at c3
  have HV := hide hlv
  clear hlv
  by_cases hS : m.pc t f g < n
  · have e : Hid (shipE m t f d g n = 7) := hide (by rw [HE.out]; simp [hS])
    go_enter Try.func36, Try.ntmps36
    go_wp2_with (first | (go_at_call 57; refine (hasTrader_b _ _ _ _ _ _ bT c2).mono ?_; rw [i1.out]; rintro e w' ⟨rfl, rfl⟩) | (go_at_call 73; refine (hasHall_b _ _ _ _ _ _ bH c1).mono ?_; (first | rw [i2.out] | rw [i3.out]); rintro e w' ⟨rfl, rfl⟩) | (go_at_call 74; refine (hasGood_b _ _ _ _ bG c0).mono ?_; rw [i5.out]; rintro e w' ⟨rfl, rfl⟩) | (go_at_call 64; refine (within_b _ _ _ _).mono ?_; rw [i6.out]; rintro e w' ⟨rfl, rfl⟩))
    go_ret
    exact ⟨ret_int e.out.symm, by rw [shipM, e.out]; exact .same R (Keeps.refl [] _) (by simp) (by simp)⟩
  · by_cases h20 : 20 ≤ m.ld.length
    · have e : Hid (shipE m t f d g n = 8) := hide (by rw [HE.out]; simp [hS, h20])
      go_enter Try.func36, Try.ntmps36
      go_wp2_with (first | (go_at_call 57; refine (hasTrader_b _ _ _ _ _ _ bT c2).mono ?_; rw [i1.out]; rintro e w' ⟨rfl, rfl⟩) | (go_at_call 73; refine (hasHall_b _ _ _ _ _ _ bH c1).mono ?_; (first | rw [i2.out] | rw [i3.out]); rintro e w' ⟨rfl, rfl⟩) | (go_at_call 74; refine (hasGood_b _ _ _ _ bG c0).mono ?_; rw [i5.out]; rintro e w' ⟨rfl, rfl⟩) | (go_at_call 64; refine (within_b _ _ _ _).mono ?_; rw [i6.out]; rintro e w' ⟨rfl, rfl⟩))
      go_ret
      exact ⟨ret_int e.out.symm, by rw [shipM, e.out]; exact .same R (Keeps.refl [] _) (by simp) (by simp)⟩
    · have e : Hid (shipE m t f d g n = 0) := hide (by rw [HE.out]; simp [hS, h20])
      obtain ⟨tm0, tm1⟩ := ok.tm
      go_enter Try.func36, Try.ntmps36
      go_wp2_with (first | (go_at_call 57; refine (hasTrader_b _ _ _ _ _ _ bT c2).mono ?_; rw [i1.out]; rintro e w' ⟨rfl, rfl⟩) | (go_at_call 73; refine (hasHall_b _ _ _ _ _ _ bH c1).mono ?_; (first | rw [i2.out] | rw [i3.out]); rintro e w' ⟨rfl, rfl⟩) | (go_at_call 74; refine (hasGood_b _ _ _ _ bG c0).mono ?_; rw [i5.out]; rintro e w' ⟨rfl, rfl⟩) | (go_at_call 64; refine (within_b _ _ _ _).mono ?_; rw [i6.out]; rintro e w' ⟨rfl, rfl⟩))
      go_region
      all_goals go_wp2
      obtain ⟨W2, hW2⟩ : ∃ W2, W2 = (w'.setCell ⟨L.ab, t * 17 + 1 + f * 4 + g, none⟩ (.int .i64 (m.pc t f g - n))).drew := ⟨_, rfl⟩
      rw [← hW2]
      have K2 : Keeps L.fp w' W2 := by rw [hW2]; exact ((Keeps.refl _ _).setCell (by simp [PL.fp]) _).drew
      have R2 : PRep W2 L (m.setPc t f g (m.pc t f g - n)) := by rw [hW2]; exact (R.setPc t f g ht hf hg _).keep (S := []) ((Keeps.refl _ _).drew) (by simp)
      have HR := hide R2
      obtain ⟨b3, f3⟩ := R2.cL
      rw [HV.out] at b3
      have b4 : W2.cell? ⟨L.x, 4, none⟩ = some (.int .i64 m.tm) := R2.cTm.cell
      have hown : W2.ownsRow 0 128 5 L.lv m.ld.length (ldCells m.ld) := R2.ld
      have q4 := R2.n4
      have q5 := R2.n5
      rw [HV.out] at hown q4 q5
      have ca : ∀ o, (W2.alloc o).cell? ⟨L.x, 3, none⟩ = some (.slice la m.ld.length lc) := fun o => HV.out ▸ (R2.cL.keep (S := []) ((Keeps.refl _ _).alloc o) (by simp)).cell
      have fa : ∀ o, (W2.alloc o).frozen? ⟨L.x, 3, none⟩ = false := fun o => (R2.cL.keep (S := []) ((Keeps.refl _ _).alloc o) (by simp)).free
      have lx : L.x < W2.heap.size := World.block_lt_of_cell? W2 _ b3
      clear hW2 c0 c1 c2 c3 cm cf R2
      obtain ⟨j0, hi0, hz0, hz1, hz2⟩ := info_parts info128
      have HD := hide (fun W => distance_any f d W (by omega) (by omega))
      have hfar : 0 ≤ far f d ∧ far f d ≤ 4 := by unfold far; split <;> omega
      obtain ⟨fr0, fr1⟩ := hfar
      have HF := hide (show shipM m t f d g n = { m.setPc t f g (m.pc t f g - n) with ld := m.ld ++ [⟨t, d, g, n, m.tm + 2 * far f d⟩] } by rw [shipM, e.out]; rfl)
      generalize far (f : Int) (d : Int) = q at *
      go_quiet ((go_at_call 75; exact Calls.quiet_of_same (HD.out _)))
      go_wp2_with (at_builtin; refine wpList_append_lies _ rfl _ _ _ rfl 0 128 j0 _ 5 40 Try.underlying118 hi0 hz0 hz1 hz2 rfl (by omega) _ m.ld.length (ldCells m.ld) rfl (by exact hown.alloc _) ⟨W2.heap.size, 0, none⟩ 1 1 (Ld.cells ⟨t, d, g, n, m.tm + 2 * q⟩) rfl rfl (by exact news_of_last' #[_, _, _, _, _] 128 (by simp)) (Ld.oneCell' _) (by omega) (by simp only [maxLen]; omega) (by omega) (by simp) (W2.heap.size + 1) (by simp) ?_)
      intro gg cap w1 hown1 hgrow hat hlt
      have z6 : w1.cell? ⟨L.x, 3, none⟩ = some (.slice la m.ld.length lc) := by
        rw [hgrow.cell_far _ (by simp; omega) (Ne.symm q4)]
        exact ca _
      have z7 : w1.frozen? ⟨L.x, 3, none⟩ = false := by
        rw [hgrow.frozen_far _ (by simp; omega) (Ne.symm q4)]
        exact fa _
      go_wp2
      go_ret
      refine ⟨ret_int e.out.symm, ?_⟩
      rw [HF.out]
      exact pship_end (m := m.setPc t f g (m.pc t f g - n)) K2 HR.out ok.T1 ((((Keeps.refl [] _).drewN _).alloc _)) (HV.out ▸ hgrow) ⟨t, d, g, n, m.tm + 2 * q⟩ hown1 (HV.out ▸ hat)

end Go.Proofs.Ytcbfmolebomkdaa
