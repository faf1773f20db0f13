/- The program's market: land, Tick. -/
import Derived.Test.YtcbfmolebomkdaaU
import Derived.Test.YtcbfmolebomkdaaF
namespace Go.Proofs.Ytcbfmolebomkdaa
open Go.RowKit Go.Sort

theorem ldCells_set (a : List Ld) (i : Nat) (l : Ld) (hi : i < a.length) :
    ldCells (a.set i l) = ((((((ldCells a).set (i * 5) (.int .i64 l.t)).set (i * 5 + 1) (.int .i64 l.h)).set (i * 5 + 2) (.int .i64 l.g)).set (i * 5 + 3) (.int .i64 l.n)).set (i * 5 + 4) (.int .i64 l.d)) := by
  induction a generalizing i with
  | nil => simp at hi
  | cons x a ih =>
    cases i with
    | zero => simp [ldCells, Ld.cells]
    | succ i =>
      have := ih i (by simpa using hi)
      simp only [List.set_cons_succ, ldCells, this]
      have e : (i + 1) * 5 = i * 5 + 5 := by omega
      simp [Ld.cells, e, List.set_cons_succ]

/-- one element of the loads' row, written over -/
theorem PRep.setOne {w : World} {L : PL} {m : Mk} {lb cap : Nat} (h : PRep w L m) (hv : L.lv = .slice (some ⟨lb, 0, none⟩) m.ld.length cap) (s : Nat) (hs : s < m.ld.length) (l : Ld) :
    PRep (w.setCells lb (s * 5) l.cells) L { m with ld := m.ld.set s l } := by
  have h4 := h.n4
  have h5 := h.n5
  rw [hv] at h4 h5
  have b1 : L.x ≠ lb := fun e => h4 (by simp [Value.ownBlock, e])
  have b2 : L.ab ≠ lb := fun e => h5 (by simp [Value.ownBlock, e])
  have o5 : ∀ {p : Addr} {u : Value}, p.block ≠ lb → p.spot = none → Own w p u → Own (w.setCells lb (s * 5) l.cells) p u := fun {p u} hp hsp hu => by
    have ne : ∀ j, p ≠ (⟨lb, j, none⟩ : Addr) := fun j e => hp (by rw [e])
    exact ((((hu.set_other (ne _) hsp rfl _).set_other (ne _) hsp rfl _).set_other (ne _) hsp rfl _).set_other (ne _) hsp rfl _).set_other (ne _) hsp rfl _
  refine ⟨o5 b1 rfl h.cG, o5 b1 rfl h.cR, o5 b1 rfl h.cA, o5 b1 rfl h.cL, o5 b1 rfl h.cTm, fun t ht => o5 b2 rfl (h.mo t ht), fun t i g ht hi hg => o5 b2 rfl (h.pc t i g ht hi hg), ?_, h.n1, h.n4, h.n5⟩
  have r := h.ld
  rw [hv] at r ⊢
  have := ((((((r.stored (s * 5) (.int .i64 l.t)).1.stored (s * 5 + 1) (.int .i64 l.h)).1.stored (s * 5 + 2) (.int .i64 l.g)).1.stored (s * 5 + 3) (.int .i64 l.n)).1.stored (s * 5 + 4) (.int .i64 l.d)).1)
  rw [← ldCells_set m.ld s l hs] at this
  simp only [List.length_set]
  exact this

theorem keeps_setCells {a w : World} {S : List Nat} {b : Nat} (h : Keeps S a w) (hb : b ∈ S ∨ a.heap.size ≤ b) (o : Nat) (vs : List Value) : Keeps S a (w.setCells b o vs) := by
  induction vs generalizing w o with
  | nil => exact h
  | cons v r ih => exact ih (h.setCell (p := ⟨b, o, none⟩) hb v) (o + 1)

theorem set_take {α : Type} (ls : List α) (s : Nat) (l : α) (hs : s < ls.length) : (ls.set s l).take (s + 1) = ls.take s ++ [l] := by
  induction ls generalizing s with
  | nil => simp at hs
  | cons x r ih =>
    cases s with
    | zero => simp
    | succ s => simp only [List.set_cons_succ, List.take_succ_cons, List.cons_append]; rw [ih s (by simpa using hs)]

/-- the first elements of a row -/
theorem ownsRow_first {w : World} {e : TypeId} {lb cap n : Nat} {ls : List Ld} (h : w.ownsRow 0 e 5 (.slice (some ⟨lb, 0, none⟩) n cap) n (ldCells ls)) (hl : ls.length = n) (s : Nat) (hs : s ≤ n) :
    w.ownsRow 0 e 5 (.slice (some ⟨lb, 0, none⟩) s cap) (ls.take s).length (ldCells (ls.take s)) := by
  have hts : (ls.take s).length = s := by simp; omega
  rw [hts]
  refine ⟨by rw [ldCells_length, hts], ?_⟩
  rcases h.2 with ⟨h1, _⟩ | ⟨g, c, cur, h1, hb, hg, hn, hm, hc, ht⟩
  · simp at h1
  · simp only [Value.slice.injEq, Option.some.injEq, Addr.mk.injEq, and_true, true_and] at h1
    obtain ⟨rfl, rfl⟩ := h1
    refine .inr ⟨lb, cap, cur, rfl, Nat.zero_le _, hg, by omega, hm, hc, ?_⟩
    have e1 : cur.toList.take (s * 5) = (cur.toList.take (n * 5)).take (s * 5) := by rw [List.take_take]; congr 1; omega
    rw [e1, ht]
    have e2 : ldCells ls = ldCells (ls.take s) ++ ldCells (ls.drop s) := by rw [← ldCells_append, List.take_append_drop]
    rw [e2]
    have e3 : (ldCells (ls.take s)).length = s * 5 := by rw [ldCells_length, hts]
    rw [← e3, List.take_left']
    rfl

set_option maxRecDepth 100000 in
set_option maxHeartbeats 1000000 in
theorem land_any (w : World) (L : PL) (m : Mk) (N : Int) (R : PRep w L m) (ok : m.Ok N) (hN : N ≤ 900000000000) :
    Calls Try.prog 77 #[.pointer (some ⟨L.x, 0, none⟩)] w fun e w' => e = .returned (.tuple #[]) ∧ PPost w L { landM m m.tm m.ld with ld := stay m.tm m.ld } w' := by
  rcases R.ld.2 with ⟨hv, hn⟩ | ⟨lb, cap, cur, hv, hrest⟩
  · have c3 := R.cL
    rw [hv] at c3
    obtain ⟨c3, f3⟩ := c3
    have hm : m.ld = [] := List.eq_nil_of_length_eq_zero hn
    have HM : Hid (PPost w L { landM m m.tm m.ld with ld := stay m.tm m.ld } (w.setCell ⟨L.x, 3, none⟩ (.slice none 0 0))) := hide (by
      rw [hm]
      refine ⟨(Keeps.refl _ _).setCell (by simp [PL.fp]) _, { L with lv := .slice none 0 0 }, rfl, ?_, R.setLd' (Keeps.refl _ _) [] _ (World.ownsRow_nil _ _ _ _) (by simp [Value.ownBlock]) (by simp [Value.ownBlock])⟩
      intro b hb
      simp only [PL.fp, Value.ownBlock, Option.toList_none, List.append_nil] at hb
      exact .inl (by simp only [PL.fp, List.mem_append]; exact .inl hb))
    clear hm hv hn R ok
    go_enter Try.func77, Try.ntmps77
    go_wp2
    go_loop [2, 15] (fun l i => l = .slice none 0 0 ∧ i = .int .i64 0) (fun _ _ => 0)
    case atStart => exact ⟨rfl, rfl⟩
    case round =>
      obtain ⟨rfl, rfl⟩ := hrel
      go_wp2
      go_end0
      exact ⟨rfl, HM.out⟩
  · have hlen : ∀ b, b ∈ L.fp → b < w.heap.size := R.lt ok.T1
    have c3 := R.cL.cell
    rw [hv] at c3
    obtain ⟨tm0, tm1⟩ := ok.tm
    have HLV := hide hv
    have hcap : m.ld.length ≤ cap := hrest.2.2.1
    have hmax : cap ≤ maxLen := hrest.2.2.2.1
    clear hv hrest
    go_enter Try.func77, Try.ntmps77
    go_wp2
    clear c3
    go_loopw [2, 15] (fun l i wr => ∃ (k : Nat) (ls : List Ld), k ≤ m.ld.length ∧ i = .int .i64 k ∧ ls.length = m.ld.length ∧ (stay m.tm (m.ld.take k)).length ≤ k ∧ ls.take (stay m.tm (m.ld.take k)).length = stay m.tm (m.ld.take k) ∧ (∀ j, k ≤ j → ls[j]? = m.ld[j]?) ∧
      l = .slice (some ⟨lb, 0, none⟩) (stay m.tm (m.ld.take k)).length cap ∧ Keeps L.fp w wr ∧ PRep wr L { landM m m.tm (m.ld.take k) with ld := ls }) (fun _ i _ => m.ld.length - (intOf i).toNat)
    case atStart => exact ⟨0, m.ld, Nat.zero_le _, rfl, rfl, by simp [stay], by simp [stay], fun _ _ => rfl, by simp [stay], Keeps.refl _ _, by simpa [landM] using R⟩
    case round =>
      obtain ⟨k, ls, hk, rfl, hll, hsk, htake, hsame, rfl, hkp, Rr⟩ := hrel
      obtain ⟨s1, s2, s3, s4, s5, s6⟩ := landM_same m m.tm (m.ld.take k)
      by_cases hlt : k < m.ld.length
      · have HS := hide (stay_snoc m.tm m.ld k hlt)
        have HL := hide (landM_snoc m m.tm m.ld k hlt)
        have HP := hide (landM_pc m N m.tm (m.ld.take k) (fun l hl => by have := (ok.ld l (List.mem_of_mem_take hl)).2.2.2.1; omega) ok.pc)
        have lk := ok.ld m.ld[k] (by simp)
        have l20 := ok.l20
        have tkl : (m.ld.take k).length = k := by simp; omega
        rw [tkl] at HP
        have hget : ls[k]? = some m.ld[k] := by rw [hsame k (Nat.le_refl _)]; simp
        generalize landM m m.tm (m.ld.take k) = M at *
        generalize stay m.tm (m.ld.take k) = ss at *
        have rl : wr.ownsRow 0 128 5 (.slice (some ⟨lb, 0, none⟩) ls.length cap) ls.length (ldCells ls) := by
          have := Rr.ld
          rw [HLV.out, ← hll] at this
          exact this
        have b4 : wr.cell? ⟨L.x, 4, none⟩ = some (.int .i64 m.tm) := s6 ▸ Rr.cTm.cell
        obtain ⟨lb', cap', hv, q0, q1, q2, q3, q4⟩ := load_cells rl k (by omega)
        simp only [Value.slice.injEq, Option.some.injEq, Addr.mk.injEq, and_true, true_and] at hv
        obtain ⟨rfl, rfl⟩ := hv
        have hgk : ls[k] = m.ld[k] := by have := List.getElem?_eq_getElem (l := ls) (i := k) (by omega); rw [this] at hget; simpa using hget
        rw [hgk] at q0 q1 q2 q3 q4
        clear hget hgk
        generalize m.ld[k] = l at *
        have lx : L.x < wr.heap.size := World.block_lt_of_cell? wr _ b4
        have ca : ∀ o, (wr.alloc o).cell? ⟨L.x, 4, none⟩ = some (.int .i64 m.tm) := fun o => cell_later (((Below.refl _ wr)).alloc (Nat.le_refl _) o) b4
        obtain ⟨⟨l1, l1'⟩, ⟨l2, l2'⟩, ⟨l3, l3'⟩, ⟨l4, l4'⟩, ⟨l5, l5'⟩⟩ := lk
        have H1 := hide s1; have H2 := hide s2; have H3 := hide s3; have H4 := hide s4; have H5 := hide s5; have H6 := hide s6
        have HT := hide htake; have HSM := hide hsame; have HLL := hide hll
        have HRL := hide rl
        have HR1 : Hid (wr.ownsRow 0 128 5 (.slice (some ⟨lb, 0, none⟩) ss.length cap) ss.length (ldCells ss)) := hide (by
          have := ownsRow_first rl rfl ss.length (by omega)
          rw [htake] at this
          exact this)
        clear s1 s2 s3 s4 s5 s6 htake hsame hll rl tkl
        by_cases hd : m.tm < l.d
        · go_wp2
          go_quiet (fail)
          obtain ⟨i0, hi0, hz0, hz1, hz2⟩ := info_parts info128
          go_wp2_with (at_builtin; (refine wpList_append_arg _ rfl _ _ _ rfl 128 i0 _ 5 40 Try.underlying118 hi0 hz0 hz1 hz2 rfl (by omega) lb 0 ss.length cap (ldCells ss) rfl (ldCells_length ss) ?holds ⟨wr.heap.size + 1, 0, none⟩ 1 1 l.cells rfl rfl (by exact news_of_last' #[_, _, _, _, _] 128 (by simp)) (Ld.oneCell' _) ?hspare (by simp only [maxLen]; omega) (by omega) ?hroom ?hgrow))
          case holds =>
            intro j u hu
            have hj : j < ss.length * 5 := by have := (List.getElem?_eq_some_iff.1 hu).1; rw [ldCells_length] at this; exact this
            have r2 := ownsRow_keep (S := []) HR1.out ((((Keeps.refl _ _).alloc (Obj.cells #[.int .i64 l.t, .int .i64 l.h, .int .i64 l.g, .int .i64 l.n, .int .i64 l.d] 128)).drewN nq).alloc (Obj.cells #[.int .i64 l.t, .int .i64 l.h, .int .i64 l.g, .int .i64 l.n, .int .i64 l.d] 128)) (by simp)
            rw [Nat.zero_add, r2.cellAt j hj]
            exact hu
          case hspare =>
            intro _ j hj
            have hj5 : j < 5 := hj
            have r2 := ownsRow_keep (S := []) HRL.out ((((Keeps.refl _ _).alloc (Obj.cells #[.int .i64 l.t, .int .i64 l.h, .int .i64 l.g, .int .i64 l.n, .int .i64 l.d] 128)).drewN nq).alloc (Obj.cells #[.int .i64 l.t, .int .i64 l.h, .int .i64 l.g, .int .i64 l.n, .int .i64 l.d] 128)) (by simp)
            have hl := HLL.out
            have hin : ss.length * 5 + j < ls.length * 5 := by omega
            rw [Nat.zero_add]
            refine ⟨?_, r2.frozenAt _⟩
            rw [r2.cellAt _ hin, List.getElem?_eq_getElem (by rw [ldCells_length]; exact hin)]
            rfl
          case hgrow => intro h; omega
          case hroom =>
            intro _
            go_wp2
            have hl := HLL.out
            have kw : Keeps [] wr (((wr.alloc (Obj.cells #[.int .i64 l.t, .int .i64 l.h, .int .i64 l.g, .int .i64 l.n, .int .i64 l.d] 128)).drewN nq).alloc (Obj.cells #[.int .i64 l.t, .int .i64 l.h, .int .i64 l.g, .int .i64 l.n, .int .i64 l.d] 128)) := ((Keeps.refl _ _).alloc _).drewN _ |>.alloc _
            have P1 := (Rr.keep kw (by simp)).setOne (lb := lb) (cap := cap) (by rw [HLV.out, ← hl]) ss.length (by simp only []; omega) l
            have e1 : stay m.tm (m.ld.take (k + 1)) = ss ++ [l] := by rw [HS.out, if_pos hd]
            have e2 : landM m m.tm (m.ld.take (k + 1)) = M := by rw [HL.out, if_pos hd]
            have hlb : lb ∈ L.fp := by simp [PL.fp, HLV.out, Value.ownBlock]
            refine ⟨⟨k + 1, ls.set ss.length l, by omega, by go_num, by simp [hl], ?_, ?_, ?_, ?_, keeps_setCells (hkp.trans' kw (by simp)) (.inl hlb) _ _, ?_⟩, by simp [intOf]; omega⟩
            · rw [e1]; simp; omega
            · rw [e1]
              have := set_take ls ss.length l (by omega)
              rw [HT.out] at this
              simpa using this
            · intro j hj
              rw [List.getElem?_set_ne (by omega)]
              exact HSM.out j (by omega)
            · rw [e1]; simp
            · rw [e2]; exact P1
        · obtain ⟨lt, lh, lg, ln, ldd⟩ := l
          simp only [] at l1 l1' l2 l2' l3 l3' l4 l4' l5 l5' hd q0 q1 q2 q3 q4
          obtain ⟨a, rfl⟩ := Int.eq_ofNat_of_zero_le l1
          obtain ⟨b, rfl⟩ := Int.eq_ofNat_of_zero_le l2
          obtain ⟨c, rfl⟩ := Int.eq_ofNat_of_zero_le l3
          have h4 := ok.H4
          have g4 := ok.G4
          have ha : a < M.T := by rw [H1.out]; omega
          have hb : b < 4 := by omega
          have hc : c < 4 := by omega
          obtain ⟨bp0, bp1⟩ := HP.out a b c (by omega) (by omega) (by omega)
          have HRr := hide Rr
          have c2 := Rr.cA
          have cm := Rr.pc a b c ha hb hc
          simp only [] at c2 cm
          have c2a : ∀ o, (wr.alloc o).cell? ⟨L.x, 2, none⟩ = some (.slice (some ⟨L.ab, 0, none⟩) M.T M.T) := fun o => (c2.keep (S := []) ((Keeps.refl _ _).alloc o) (by simp)).cell
          have cma : ∀ o, (wr.alloc o).cell? ⟨L.ab, a * 17 + 1 + b * 4 + c, none⟩ = some (.int .i64 (M.pc a b c)) := fun o => (cm.keep (S := []) ((Keeps.refl _ _).alloc o) (by simp)).cell
          have cfa : ∀ o, (wr.alloc o).frozen? ⟨L.ab, a * 17 + 1 + b * 4 + c, none⟩ = false := fun o => (cm.keep (S := []) ((Keeps.refl _ _).alloc o) (by simp)).free
          have lab : L.ab < wr.heap.size := cm.lt
          clear Rr c2 cm ok R
          go_wp2
          go_quiet (fail)
          go_wp2
          go_region
          all_goals go_wp2
          have e1 : stay m.tm (m.ld.take (k + 1)) = ss := by rw [HS.out, if_neg (Int.not_lt.2 hd), List.append_nil]
          have e2 : landM m m.tm (m.ld.take (k + 1)) = M.setPc a b c (M.pc a b c + ln) := by rw [HL.out, if_neg (Int.not_lt.2 hd)]; rfl
          refine ⟨⟨k + 1, ls, by omega, by go_num, HLL.out, ?_, ?_, ?_, ?_, ?_, ?_⟩, by simp [intOf]; omega⟩
          · rw [e1]; omega
          · rw [e1]; exact HT.out
          · intro j hj; exact HSM.out j (by omega)
          · rw [e1]
          · exact ((hkp.alloc _).drewN _).setCell (.inl (by simp [PL.fp])) _
          · rw [e2]
            exact (HRr.out.keep (S := []) (((Keeps.refl _ _).alloc _).drewN _) (by simp)).setPc a b c ha hb hc _
      · have e1 : k = m.ld.length := by omega
        subst e1
        obtain ⟨b3, f3⟩ := Rr.cL
        rw [HLV.out] at b3
        rw [List.take_of_length_le (Nat.le_refl _)] at *
        have HRr := hide Rr
        have HT := hide htake
        have hll' := hide hll
        clear Rr s1 s2 s3 s4 s5 s6 hsame htake hll
        go_wp2
        go_end0
        have r1 := HRr.out.ld
        simp only [] at r1
        rw [HLV.out, hll'.out] at r1
        have r2 := ownsRow_first r1 hll'.out (stay m.tm m.ld).length hsk
        rw [HT.out] at r2
        have h4 := HRr.out.n4
        have h5 := HRr.out.n5
        rw [HLV.out] at h4 h5
        refine ⟨rfl, hkp.setCell (.inl (by simp [PL.fp])) _, { L with lv := .slice (some ⟨lb, 0, none⟩) (stay m.tm m.ld).length cap }, rfl, ?_, ?_⟩
        · intro b hb
          simp only [PL.fp, HLV.out, Value.ownBlock] at hb ⊢
          exact .inl hb
        · exact HRr.out.setLd' (Keeps.refl _ wr) (stay m.tm m.ld) _ r2 h4 h5

theorem Mk.Ok.later {m : Mk} {N : Int} (ok : m.Ok N) (h : m.tm < 1000000000) : ({ m with tm := m.tm + 1 } : Mk).Ok N :=
  ⟨ok.bN, ok.T1, ok.T8, ok.G1, ok.G4, ok.H1, ok.H4, ok.mo, ok.pc, ok.l20, ok.ld, by have := ok.tm; simp only []; omega⟩

set_option maxHeartbeats 400000 in
theorem progTick_any (w : World) (L : PL) (m : Mk) (N : Int) (R : PRep w L m) (ok : m.Ok N) (hN : N ≤ 900000000000) :
    Calls Try.prog 38 #[.pointer (some ⟨L.x, 0, none⟩)] w fun e w' => e = .returned (.int .i64 (tickE m)) ∧ PPost w L (tickM m) w' := by
  obtain ⟨c4, f4⟩ := R.cTm
  obtain ⟨tm0, tm1⟩ := ok.tm
  by_cases hT : 1000000000 ≤ m.tm
  · have e : Hid (tickE m = 8) := hide (by simp [tickE, hT])
    go_enter Try.func38, Try.ntmps38
    go_wp2
    go_ret
    exact ⟨ret_int e.out.symm, by rw [tickM, e.out]; exact .same R (Keeps.refl [] _) (by simp) (by simp)⟩
  · have e : Hid (tickE m = 0) := hide (by simp [tickE, hT])
    have R0 := R.setTm (m.tm + 1)
    have K0 : Keeps L.fp w (w.setCell ⟨L.x, 4, none⟩ (.int .i64 (m.tm + 1))) := (Keeps.refl _ _).setCell (by simp [PL.fp]) _
    have HQ := hide (land_any _ L _ N R0 (ok.later (by omega)) hN)
    have HT := hide (landM_tm m (m.tm + 1) (m.tm + 1) m.ld)
    clear R0
    go_enter Try.func38, Try.ntmps38
    go_wp2_with fail
    refine HQ.out.mono ?_
    rintro e w1 ⟨rfl, P⟩
    go_wp2
    go_ret
    refine ⟨ret_int e.out.symm, K0.trans P.kp, ?_⟩
    obtain ⟨L', h1, h2, h3⟩ := P.rep
    refine ⟨L', h1, fun b hb => (h2 b hb).imp id (fun h => by simpa using h), ?_⟩
    rw [HT.out] at h3
    rw [tickM, if_pos e.out]
    exact h3

theorem progShip_any (w : World) (L : PL) (m : Mk) (N t f o g n : Int) (R : PRep w L m) (ok : m.Ok N) :
    Calls Try.prog 36 #[.pointer (some ⟨L.x, 0, none⟩), .int .i64 t, .int .i64 f, .int .i64 o, .int .i64 g, .int .i64 n] w fun e w' => e = .returned (.int .i64 (shipE m t f o g n)) ∧ PPost w L (shipM m t f o g n) w' := by
  by_cases hb : shipGood m t f o g n
  · have hb' := hb
    obtain ⟨⟨t0, _⟩, ⟨o0, _⟩, _, hl⟩ := hb'
    obtain ⟨_, ⟨f0, _⟩, ⟨g0, _⟩, _⟩ := lotsE_zero hl
    obtain ⟨t, rfl⟩ := Int.eq_ofNat_of_zero_le t0
    obtain ⟨f, rfl⟩ := Int.eq_ofNat_of_zero_le f0
    obtain ⟨g, rfl⟩ := Int.eq_ofNat_of_zero_le g0
    obtain ⟨o, rfl⟩ := Int.eq_ofNat_of_zero_le o0
    exact progShip_good w L m N t f o g n R ok hb
  · exact progShip_bad w L m N t f o g n R ok hb

end Go.Proofs.Ytcbfmolebomkdaa
