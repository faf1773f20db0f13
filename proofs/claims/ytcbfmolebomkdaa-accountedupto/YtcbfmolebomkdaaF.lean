/- The document's market: Tick. -/
import Derived.Test.YtcbfmolebomkdaaE
namespace Go.Proofs.Ytcbfmolebomkdaa
open Go.RowKit Go.Sort

theorem info130' : (Try.prog.info? 130).map (fun i => (i.zero, i.size, i.bytes)) = some (some (.agg #[.int .i64 0, .int .i64 0, .int .i64 0, .int .i64 0, .int .i64 0]), 5, 40) := by kernel_rfl

theorem stay_snoc (now : Int) (a : List Ld) (k : Nat) (hk : k < a.length) : stay now (a.take (k + 1)) = stay now (a.take k) ++ if now < a[k].d then [a[k]] else [] := by
  rw [List.take_succ_eq_append_getElem hk]
  simp only [stay, List.filter_append]
  by_cases h : now < a[k].d <;> simp [h]

theorem landM_snoc (m : Mk) (now : Int) (a : List Ld) (k : Nat) (hk : k < a.length) : landM m now (a.take (k + 1)) = if now < a[k].d then landM m now (a.take k) else
    (landM m now (a.take k)).setPc a[k].t.toNat a[k].h.toNat a[k].g.toNat ((landM m now (a.take k)).pc a[k].t.toNat a[k].h.toNat a[k].g.toNat + a[k].n) := by
  rw [List.take_succ_eq_append_getElem hk, landM_append]
  by_cases h : now < a[k].d <;> simp [landM, h]

theorem stay_length (now : Int) (a : List Ld) : (stay now a).length ≤ a.length := List.length_filter_le _ _

/-- pieces stay within their bounds while loads come -/
theorem landM_pc (m : Mk) (N now : Int) (a : List Ld) (hb : ∀ l, l ∈ a → 0 ≤ l.n ∧ l.n ≤ 10000) (hp : ∀ t h g, t < m.T → h < m.H → g < m.G → 0 ≤ m.pc t h g ∧ m.pc t h g ≤ N) :
    ∀ t h g, t < m.T → h < m.H → g < m.G → 0 ≤ (landM m now a).pc t h g ∧ (landM m now a).pc t h g ≤ N + 10000 * a.length := by
  induction a generalizing m N with
  | nil => intro t h g ht hh hg; have := hp t h g ht hh hg; simp [landM]; omega
  | cons x a ih =>
    intro t h g ht hh hg
    have hx := hb x (by simp)
    simp only [landM]
    by_cases hd : now < x.d
    · have := ih m N (fun l hl => hb l (by simp [hl])) hp t h g ht hh hg
      simp only [hd, if_true, List.length_cons]
      omega
    · have := ih (m.setPc x.t.toNat x.h.toNat x.g.toNat (m.pc x.t.toNat x.h.toNat x.g.toNat + x.n)) (N + 10000) (fun l hl => hb l (by simp [hl])) (fun t' h' g' ht' hh' hg' => by
        simp only [Mk.setPc] at ht' hh' hg' ⊢
        have h1 := hp t' h' g' ht' hh' hg'
        split
        · rename_i he
          obtain ⟨rfl, rfl, rfl⟩ := he
          omega
        · omega) t h g ht hh hg
      simp only [hd, if_false, List.length_cons]
      omega

theorem landM_tm (m : Mk) (x now : Int) (a : List Ld) : landM { m with tm := x } now a = { landM m now a with tm := x } := by
  induction a generalizing m with
  | nil => rfl
  | cons l a ih =>
    simp only [landM]
    by_cases h : now < l.d
    · simp only [h, if_true, ih]
    · simp only [h, if_false]
      exact ih (m.setPc l.t.toNat l.h.toNat l.g.toNat (m.pc l.t.toNat l.h.toNat l.g.toNat + l.n))

theorem ownsRow_base {w : World} {b : Nat} {e : TypeId} {size : Nat} {v : Value} {n : Nat} {xs : List Value} (h : w.ownsRow b e size v n xs) : w.ownsRow 0 e size v n xs := by
  refine ⟨h.1, ?_⟩
  rcases h.2 with hn | ⟨g, cap, cur, rfl, hb, rest⟩
  · exact .inl hn
  · exact .inr ⟨g, cap, cur, rfl, Nat.zero_le _, rest⟩

set_option maxRecDepth 100000 in
set_option maxHeartbeats 1000000 in
theorem refTick_any (w : World) (L : RL) (m : Mk) (N : Int) (R : RefRep w L m) (ok : m.Ok N) (hN : N ≤ 900000000000) :
    Calls Try.prog 39 #[.pointer (some ⟨L.c, 0, none⟩)] w fun e w' => e = .returned (.int .i64 (tickE m)) ∧ RefPost w L (tickM m) w' := by
  obtain ⟨c12, f12⟩ := R.cTm
  obtain ⟨tm0, tm1⟩ := ok.tm
  by_cases hT : 1000000000 ≤ m.tm
  · have e : Hid (tickE m = 8) := hide (by simp [tickE, hT])
    go_enter Try.func39, Try.ntmps39
    go_wp2
    go_ret
    exact ⟨ret_int e.out.symm, by rw [tickM, e.out]; exact .same R (Keeps.refl [] _) (by simp) (by simp)⟩
  · have e : Hid (tickE m = 0) := hide (by simp [tickE, hT])
    have R0 := R.setTm (m.tm + 1)
    have K0 : Keeps L.fp w (w.setCell ⟨L.c, 12, none⟩ (.int .i64 (m.tm + 1))) := (Keeps.refl _ _).setCell (by simp [RL.fp]) _
    go_enter Try.func39, Try.ntmps39
    go_wp2
    generalize w.setCell ⟨L.c, 12, none⟩ (.int .i64 (m.tm + 1)) = W0 at *
    clear c12 f12
    go_loopw [3, 4] (fun l i wr => ∃ k : Nat, k ≤ m.ld.length ∧ i = .int .i64 k ∧ Keeps L.fp w wr ∧ RefRep wr L (landM { m with tm := m.tm + 1 } (m.tm + 1) (m.ld.take k)) ∧ wr.ownsRow w.heap.size 130 5 l (stay (m.tm + 1) (m.ld.take k)).length (ldCells (stay (m.tm + 1) (m.ld.take k)))) (fun _ i _ => m.ld.length - (intOf i).toNat)
    case atStart => exact ⟨0, Nat.zero_le _, rfl, K0, R0, by simpa [stay, ldCells] using World.ownsRow_nil _ _ _ _⟩
    case round =>
      obtain ⟨k, hk, rfl, hkp, Rr, hown⟩ := hrel
      obtain ⟨la, lc, hlv⟩ : ∃ a c, L.lv = .slice a m.ld.length c := by
        rcases R.ld.2 with ⟨h1, h2⟩ | ⟨_, _, _, h1, _⟩
        · exact ⟨none, 0, by rw [h1, h2]⟩
        · exact ⟨_, _, h1⟩
      obtain ⟨s1, s2, s3, s4, s5, s6⟩ := landM_same { m with tm := m.tm + 1 } (m.tm + 1) (m.ld.take k)
      by_cases hlt : k < m.ld.length
      · have HS := hide (stay_snoc (m.tm + 1) m.ld k hlt)
        have HL := hide (landM_snoc { m with tm := m.tm + 1 } (m.tm + 1) m.ld k hlt)
        have HP := hide (landM_pc { m with tm := m.tm + 1 } N (m.tm + 1) (m.ld.take k) (fun l hl => by have := (ok.ld l (List.mem_of_mem_take hl)).2.2.2.1; omega) ok.pc)
        have lk := ok.ld m.ld[k] (by simp)
        have l20 := ok.l20
        have stl := stay_length (m.tm + 1) (m.ld.take k)
        have tkl : (m.ld.take k).length = k := by simp; omega
        rw [tkl] at stl HP
        simp only [] at s1 s2 s3 s4 s5 s6 HP
        generalize landM { m with tm := m.tm + 1 } (m.tm + 1) (m.ld.take k) = M at *
        generalize stay (m.tm + 1) (m.ld.take k) = ss at *
        have rl := Rr.ld
        have b12 := Rr.cTm.cell
        have b6 := Rr.cL.cell
        rw [s5] at rl
        rw [s6] at b12
        rw [hlv] at rl b6
        obtain ⟨lb, cap', hv, q0, q1, q2, q3, q4⟩ := load_cells rl k hlt
        simp only [Value.slice.injEq, true_and] at hv
        obtain ⟨rfl, rfl⟩ := hv
        generalize m.ld[k] = l at *
        have lc6 : L.c < wr.heap.size := World.block_lt_of_cell? wr _ b6
        clear rl tkl K0 R0
        have ca : ∀ o, (wr.alloc o).cell? ⟨L.c, 12, none⟩ = some (.int .i64 (m.tm + 1)) := fun o => cell_later (((Below.refl _ wr)).alloc (Nat.le_refl _) o) b12
        obtain ⟨⟨l1, l1'⟩, ⟨l2, l2'⟩, ⟨l3, l3'⟩, ⟨l4, l4'⟩, ⟨l5, l5'⟩⟩ := lk
        have H1 := hide s1; have H2 := hide s2; have H3 := hide s3; have H4 := hide s4; have H5 := hide s5; have H6 := hide s6; have HV := hide hlv
        clear s1 s2 s3 s4 s5 s6 hlv
        by_cases hd : m.tm + 1 < l.d
        · go_wp2
          go_quiet (fail)
          obtain ⟨i0, hi0, hz0, hz1, hz2⟩ := info_parts info130'
          have lw := hkp.size
          go_wp2_with (at_builtin; refine wpList_append_lies _ rfl _ _ _ rfl w.heap.size 130 i0 _ 5 40 Try.underlying89 hi0 hz0 hz1 hz2 rfl (by omega) _ ss.length (ldCells ss) rfl (by exact (hown.alloc _).alloc _) ⟨wr.heap.size + 1, 0, none⟩ 1 1 l.cells rfl rfl ?hnews ?h1 (by omega) ?h63 (by omega) ?hbase (wr.heap.size + 2) (by simp) ?_)
          case hnews =>
            refine World.news_of_block (cs := #[.int .i64 l.t, .int .i64 l.h, .int .i64 l.g, .int .i64 l.n, .int .i64 l.d]) (t := 130) (fr := (0, 0)) ?_
            have := heap_alloc_new ((wr.alloc (Obj.cells #[.int .i64 l.t, .int .i64 l.h, .int .i64 l.g, .int .i64 l.n, .int .i64 l.d] 130)).drewN nq) (Obj.cells #[.int .i64 l.t, .int .i64 l.h, .int .i64 l.g, .int .i64 l.n, .int .i64 l.d] 130)
            simpa using this
          case h1 => simp [Ld.cells, Value.oneCell']
          case h63 => simp only [maxLen]; omega
          case hbase => simp; omega
          intro gg cap w1 hown1 hgrow hat hlt1
          go_wp2
          have fresh : ∀ b, u3.ownBlock = some b → w.heap.size ≤ b := fun b hb => (hown.lt b hb).1
          have k1 : Keeps u3.ownBlock.toList wr w1 := ((((Keeps.refl _ _).alloc _).drewN _).alloc _).grown hgrow (fun b hb => .inl (by simp [hb]))
          refine ⟨⟨k + 1, by omega, by go_num, hkp.trans' k1 (fun b hb => .inr (fresh b (by simpa using hb))), ?_, ?_⟩, by simp [intOf]; omega⟩
          · rw [HL.out, if_pos hd]
            refine Rr.keep k1 (fun b hb hb' => ?_)
            have h1 := R.lt ok b hb
            have h2 := fresh b (by simpa using hb')
            omega
          · rw [HS.out, if_pos hd]
            simpa [ldCells_append, ldCells] using hown1
        · obtain ⟨lt, lh, lg, ln, ldd⟩ := l
          simp only [] at l1 l1' l2 l2' l3 l3' l4 l4' l5 l5' hd q0 q1 q2 q3 q4
          obtain ⟨a, rfl⟩ := Int.eq_ofNat_of_zero_le l1
          obtain ⟨b, rfl⟩ := Int.eq_ofNat_of_zero_le l2
          obtain ⟨c, rfl⟩ := Int.eq_ofNat_of_zero_le l3
          have ha : a < M.T := by rw [H1.out]; omega
          have hb : b < M.H := by rw [H3.out]; omega
          have hc : c < M.G := by rw [H2.out]; omega
          obtain ⟨bp0, bp1⟩ := HP.out a b c (by omega) (by omega) (by omega)
          have okM : M.Ok 1000000000000 := ⟨by omega, H1.out ▸ ok.T1, H1.out ▸ ok.T8, H2.out ▸ ok.G1, H2.out ▸ ok.G4, H3.out ▸ ok.H1, H3.out ▸ ok.H4, fun t ht => by rw [H4.out]; exact ok.mo t (by rw [← H1.out]; exact ht),
            fun t h g ht hh hg => by have := HP.out t h g (by rw [← H1.out]; exact ht) (by rw [← H3.out]; exact hh) (by rw [← H2.out]; exact hg); omega, by rw [H5.out]; exact ok.l20, fun l hl => by rw [H1.out, H2.out, H3.out]; exact ok.ld l (by rw [← H5.out]; exact hl), by rw [H6.out]; omega⟩
          have HOK := hide okM
          have HRr := hide Rr
          have kk := lot_lt ha hb hc
          have c4 := Rr.cP
          have cm := Rr.pc a b c ha hb hc
          generalize hK : (a * M.H + b) * M.G + c = K at *
          have HK := hide hK
          generalize M.T * M.G * M.H = TT at *
          have c4a : ∀ o, (wr.alloc o).cell? ⟨L.c, 4, none⟩ = some (.slice (some ⟨L.pb, 0, none⟩) TT TT) := fun o => (c4.keep (S := []) ((Keeps.refl _ _).alloc o) (by simp)).cell
          have cma : ∀ o, (wr.alloc o).cell? ⟨L.pb, K, none⟩ = some (.int .i64 (M.pc a b c)) := fun o => (cm.keep (S := []) ((Keeps.refl _ _).alloc o) (by simp)).cell
          have cfa : ∀ o, (wr.alloc o).frozen? ⟨L.pb, K, none⟩ = false := fun o => (cm.keep (S := []) ((Keeps.refl _ _).alloc o) (by simp)).free
          have lpbw : L.pb < w.heap.size := R.lt ok _ (by simp [RL.fp])
          have lpb : L.pb < wr.heap.size := cm.lt
          clear hK okM Rr c4 cm ok R
          go_wp2
          go_quiet (fail)
          go_wp2_with fail
          refine (lot_nat _ L M _ (HRr.out.keep (S := []) (((Keeps.refl _ _).alloc _).drewN _) (by simp)) HOK.out a b c ha hb hc).mono ?_
          rintro e w' ⟨rfl, nd', rfl⟩
          rw [HK.out]
          go_wp2
          go_region
          all_goals go_wp2
          refine ⟨⟨k + 1, by omega, by go_num, ?_, ?_, ?_⟩, by simp [intOf]; omega⟩
          · exact ((hkp.alloc _).drewN _).setCell (.inl (by simp [RL.fp])) _
          · rw [HL.out, if_neg (Int.not_lt.2 hd), ← HK.out]
            exact (HRr.out.keep (S := []) (((Keeps.refl _ _).alloc _).drewN _) (by simp)).setPc a b c ha hb hc _
          · rw [HS.out, if_neg (Int.not_lt.2 hd)]
            simp only [List.append_nil]
            refine ownsRow_setCell_other (by exact hown.alloc _) (fun h => ?_) _
            have h1 : w.heap.size ≤ L.pb := (hown.lt _ h).1
            have h2 := lpbw
            omega
      · have e1 : k = m.ld.length := by omega
        subst e1
        have b6 := Rr.cL
        rw [hlv] at b6
        obtain ⟨b6, f6⟩ := b6
        have HT := hide (landM_tm m (m.tm + 1) (m.tm + 1) m.ld)
        rw [List.take_of_length_le (Nat.le_refl _)] at *
        have HRr := hide Rr
        have HV := hide hlv
        clear Rr s1 s2 s3 s4 s5 s6 R0 K0 hlv
        obtain ⟨ua, un, uc, rfl⟩ : ∃ a n c, u3 = .slice a n c := by
          rcases hown.2 with ⟨h, _⟩ | ⟨_, _, _, h, _⟩
          · exact ⟨_, _, _, h⟩
          · exact ⟨_, _, _, h⟩
        go_wp2
        go_ret
        have h4 : ∀ b, b ∈ L.fp → (Value.slice ua un uc).ownBlock ≠ some b := fun b hb h => by
          have h1 := R.lt ok b hb
          have h2 := (hown.lt b h).1
          omega
        refine ⟨ret_int e.out.symm, hkp.setCell (.inl (by simp [RL.fp])) _, { L with lv := .slice ua un uc }, rfl, ?_, ?_⟩
        · intro b hb
          simp only [RL.fp, List.mem_append, List.mem_cons, List.not_mem_nil, or_false, Option.mem_toList] at hb ⊢
          rcases hb with hb | hb
          · exact .inl (.inl hb)
          · exact .inr (hown.lt b hb).1
        · have := HRr.out.setLd' (Keeps.refl _ wr) (stay (m.tm + 1) m.ld) _ (ownsRow_base hown) (h4 _ (by simp [RL.fp])) (h4 _ (by simp [RL.fp])) (h4 _ (by simp [RL.fp]))
          rw [HT.out] at this
          rw [tickM, if_pos e.out]
          exact this

end Go.Proofs.Ytcbfmolebomkdaa
