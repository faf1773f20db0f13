/- The program's market: how many pieces an order meets. -/
import Derived.Sort.QuietTacIn
import Derived.Test.YtcfoobhihhndjaaB01
import Derived.Test.YtcfoobhihhndjaaB17
import Derived.Test.YtcfoobhihhndjaaB18
namespace Go.Proofs.Ytcfoobhihhndjaa

section
open Go.RowKit Go.Sort

attribute [local go_sem] Oper.semAt_some

theorem other_any (s : Nat) (hs : s < 2) (w : World) : Calls Try.prog 70 #[.int .i64 s] w fun e w' => e = .returned (.int .i64 (otherS s)) ∧ w' = w := by
  rcases s with _ | _ | s
  · exact other_buy w
  · exact other_sell w
  · omega

/-- pieces met, under way -/
structure MetSt (w : World) (o : Od) (k : Int) (wr : World) : Prop where
  kp : Below w.heap.size w wr
  ob : OdAt wr w.heap.size o
  sm : Own wr ⟨w.heap.size + 1, 0, none⟩ (.int .i64 k)

theorem MetSt.later {w : World} {o : Od} {k : Int} {wr wr' : World} (s : MetSt w o k wr) (q : Kep non wr wr') : MetSt w o k wr' :=
  ⟨s.kp.trans (q.bel.mono s.kp.size), fun j v hv => (s.ob j v hv).kep q (fun q => q), s.sm.kep q (fun q => q)⟩

theorem MetSt.setK {w : World} {o : Od} {k : Int} {wr : World} (s : MetSt w o k wr) (d : Int) : MetSt w o d (wr.setCell ⟨w.heap.size + 1, 0, none⟩ (.int .i64 d)) :=
  ⟨s.kp.setCell (p := ⟨w.heap.size + 1, 0, none⟩) (by simp) _, fun j v hv => (s.ob j v hv).set_other (by intro q; injection q with q _ _; omega) rfl rfl _, s.sm.set rfl _⟩

theorem met_own {β : Type} (B : Nat) (w : World) (o : Od) (f : β → Int) (hB : w.heap.size ≤ B) : OwnFrom B (fun (s : β) W => MetSt w o (f s) W) := by
  intro s A A' row hs hg hr
  have hr2 : ∀ r, row = some r → ∃ o : Obj, A.heap[r]? = some o ∧ o.isCells = false := fun r e => (hr r e).2
  exact ⟨ownFrom_below (β := β) (Nat.le_refl _) hB s A A' row hs.kp hg hr, fun j v hv => own_turn (hs.ob j v hv) hg hr2, own_turn hs.sm hg hr2⟩

theorem met_pre (w : World) (o : Od) :
    let W0 := (w.alloc (.cells #[.int .i64 o.id, .int .i64 o.t, .int .i64 o.h, .int .i64 o.g, .int .i64 o.s, .int .i64 o.p, .int .i64 o.q, .int .i64 o.w] 42)).alloc (.cells #[.int .i64 0] 3)
    W0.heap.size = w.heap.size + 2 ∧ MetSt w o 0 W0 := by
  intro W0
  have h1 := heap_alloc_new w (.cells #[.int .i64 o.id, .int .i64 o.t, .int .i64 o.h, .int .i64 o.g, .int .i64 o.s, .int .i64 o.p, .int .i64 o.q, .int .i64 o.w] 42)
  have h2 := heap_alloc_new (w.alloc (.cells #[.int .i64 o.id, .int .i64 o.t, .int .i64 o.h, .int .i64 o.g, .int .i64 o.s, .int .i64 o.p, .int .i64 o.q, .int .i64 o.w] 42)) (.cells #[.int .i64 0] 3)
  rw [World.size_alloc] at h2
  refine ⟨by simp [W0], ((Below.refl _ w).alloc (Nat.le_refl _) _).alloc (by simp) _, fun j v hv => ?_, ?_⟩
  · have h0 : Own (w.alloc (.cells #[.int .i64 o.id, .int .i64 o.t, .int .i64 o.h, .int .i64 o.g, .int .i64 o.s, .int .i64 o.p, .int .i64 o.q, .int .i64 o.w] 42)) ⟨w.heap.size, j, none⟩ v := by
      refine ⟨?_, frozen_of_row _ _ j _ _ h1⟩
      rw [cell_of_row _ _ j _ _ _ h1]
      simpa [Od.cells] using hv
    exact h0.kep ((Kep.refl non _).alloc _) (fun q => q)
  · exact ⟨cell_of_row _ _ 0 _ _ _ h2, frozen_of_row _ _ 0 _ _ h2⟩

theorem ko_drewN (W : World) (n : Nat) : KeepsOthers W (W.drewN n) := ⟨Nat.le_refl _, fun _ _ h _ => h⟩

/-- ways that come to one end, but for what was drawn -/
theorem meetsK {X : Act → World → Prop} {G : Prop} {A : Act} {W : World} (ways : (∀ k, X A (W.drewN k)) → G) (rest : ∀ k, X A (W.drewN k)) : G := ways rest

theorem metL_append (o : Od) (a b : List Od) : metL o (a ++ b) = metL o a + metL o b := by
  induction a with
  | nil => simp [metL]
  | cons x a ih => simp only [List.cons_append, metL, ih]; omega

theorem metL_bd (o : Od) : ∀ l : List Od, (∀ z ∈ l, 1 ≤ z.q ∧ z.q ≤ 10000) → 0 ≤ metL o l ∧ metL o l ≤ 10000 * (l.length : Int)
  | [], _ => by simp [metL]
  | z :: r, h => by
    have ih := metL_bd o r (fun x hx => h x (List.mem_cons_of_mem _ hx))
    have hq := h z List.mem_cons_self
    simp only [metL, List.length_cons]
    split <;> omega

theorem met_end {w wr : World} {D : Nat} {o : Od} {k K : Int} {tm : Array Value} (e1 : k = K) (hzD : w.heap.size + 2 ≤ D) (hD : wr.heap[D]? = some (.deferred (some []))) (S : MetSt w o k wr) (ht : tm[4]? = some (.int .i64 k) := by rfl) :
    bodyPostM Fence.wide 3 Try.prog Try.f68 (fun e w' => e = .returned (.int .i64 K) ∧ Below w.heap.size w w') .ret { tmps := tm, defers := [{ target := .collected D, args := #[] }] } wr := by
  subst e1
  refine ⟨by simp, .inl ⟨_, _, rfl, run_takeDeferred hD, ?_⟩⟩
  refine ⟨.int .i64 k, ?_, rfl, S.kp.trans (belowK_b (w := w) (Nat.le_refl _) wr D _ _ (by omega) hD rfl rfl)⟩
  simp [results, Try.results68, go_sem, ht]

set_option maxRecDepth 100000 in
set_option maxHeartbeats 4000000 in
theorem piecesMet_any (w : World) (L : PL) (m : Mt) (N : Int) (R : PRep w L m) (ok : m.Ok N) (o : Od) (h g s : Nat) (eh : o.h = h) (eg : o.g = g) (es : o.s = s) (hh : h < m.H) (hg : g < m.G) (hs : s < 2) :
    Calls Try.prog 68 #[.pointer (some ⟨L.x, 0, none⟩), o.agg] w fun e w' => e = .returned (.int .i64 (m.met o)) ∧ Below w.heap.size w w' := by
  have q1 : at3 m h g (otherS s) := ⟨hh, hg, by unfold otherS; split <;> omega⟩
  have HM := hide (show metL o (m.bk h g (otherS s)) = m.met o by unfold Mt.met; rw [eh, eg, es]; rfl)
  have HR := hide R
  have HO := hide ok
  have HP := hide (met_pre w o)
  have HB := hide (show ∀ W, MetSt w o 0 W → Calls Try.prog 69 #[.pointer (some ⟨L.x, 0, none⟩), .pointer (some ⟨w.heap.size, 0, none⟩)] W fun e w' => e = .returned (.pointer (some ⟨L.gb h, g * 5, none⟩)) ∧ ∃ k, w' = W.drewN k from fun W S =>
    bookOf_any W L m (R.bel S.kp) _ h g o S.ob eh eg hh hg)
  obtain ⟨su, hsu⟩ : ∃ su, su = otherS s := ⟨_, rfl⟩
  have HT := hide (show ∀ W, Calls Try.prog 70 #[.int .i64 s] W fun e w' => e = .returned (.int .i64 su) ∧ w' = W from fun W => by rw [hsu]; exact other_any s hs W)
  rw [← hsu] at q1 HM
  obtain ⟨qa, qc, hqv⟩ := R.qvform q1
  have HA := hide (show ∀ W, MetSt w o 0 W → Calls Try.prog 63 #[.pointer (some ⟨L.qb h g su, 0, none⟩)] W fun e w' => e = .returned (.func (.func 96) #[] #[.pointer (some ⟨W.heap.size, 0, none⟩)]) ∧ w' = W.alloc (.cells #[.slice qa (L.ob h g su).length qc] 88) from fun W S =>
    all_any _ _ _ _ _ (by have := ((R.bel S.kp).q1 h g su q1).cell; rwa [hqv] at this))
  have HC := hide (show ∀ W, MetSt w o 0 W → W.cell? ⟨w.heap.size, 4, none⟩ = some (.int .i64 s) ∧ W.cell? ⟨L.gb h, g * 5 + su, none⟩ = some (.pointer (some ⟨L.qb h g su, 0, none⟩)) from fun W S =>
    ⟨by have := (S.ob 4 _ rfl).cell; rwa [es] at this, ((R.bel S.kp).sd h g su q1).cell⟩)
  have hs2 : (su : Int) < 2 := by have := q1.2.2; omega
  have hmx := mixed
  unfold Od.agg
  clear R ok hsu
  refine (callsIn_wide (n := 3)).1 ?_
  refine callsIn_of_wp_marks Try.func68 rfl trivial ?_ rfl
  simp only [Try.ntmps68, List.size_toArray, List.length_cons, List.length_nil, Nat.reduceAdd, Nat.reduceSub, Array.replicate_succ, Array.replicate_zero, List.push_toArray, List.append_toArray, List.nil_append, List.cons_append]
  refine wpIn_wide.2 ?_
  have EE := hide (And.intro eh (And.intro eg es))
  clear eh eg es
  go_wp2
  generalize (w.alloc (.cells #[.int .i64 o.id, .int .i64 o.t, .int .i64 o.h, .int .i64 o.g, .int .i64 o.s, .int .i64 o.p, .int .i64 o.q, .int .i64 o.w] 42)).alloc (.cells #[.int .i64 0] 3) = W0 at *
  have hz := HP.out.1
  have HS0 := hide (show ∀ W, Kep non W0 W → MetSt w o 0 W from fun W k => HP.out.2.later k)
  obtain ⟨c4, cs⟩ := HC.out W0 (HS0.out W0 (Kep.refl _ _))
  go_cut [16] from 7 to 15 (fun s16 wx => s16 = .func (.func 96) #[] #[.pointer (some ⟨w.heap.size + 2, 0, none⟩)] ∧ MetSt w o 0 wx ∧ wx.heap[w.heap.size + 2]? = some (.cells #[.slice qa (L.ob h g su).length qc] 88 (0, 0)))
  case first =>
    go_region_held3 (fun w' => w'.cell? ⟨w.heap.size, 4, none⟩ = some (.int .i64 s) ∧ w'.cell? ⟨L.gb h, g * 5 + su, none⟩ = some (.pointer (some ⟨L.qb h g su, 0, none⟩)))
      ((refine HC.out _ (HS0.out _ ?_); (repeat (first | apply Kep.drew | apply Kep.drewN | apply Kep.alloc)); exact Kep.refl _ _))
      (first | (go_at_call 69; refine (HB.out _ (HS0.out _ ?_)).mono ?_; ((repeat (first | apply Kep.drew | apply Kep.drewN | apply Kep.alloc)); exact Kep.refl _ _); rintro e w' ⟨rfl, k, rfl⟩) | (go_at_call 70; refine (HT.out _).mono ?_; rintro e w' ⟨rfl, rfl⟩) | (go_at_call 63; refine (HA.out _ (HS0.out _ ?_)).mono ?_; ((repeat (first | apply Kep.drew | apply Kep.drewN | apply Kep.alloc)); exact Kep.refl _ _); rintro e w' ⟨rfl, rfl⟩))
    all_goals go_step
    all_goals go_step
    all_goals go_meet
    all_goals refine ⟨rfl, HS0.out _ ?_, ?_⟩
    all_goals first
      | ((repeat (first | apply Kep.drew | apply Kep.drewN | apply Kep.alloc)); exact Kep.refl _ _)
      | (rw [← hz]; exact heap_alloc_new _ _)
  case rest =>
    obtain ⟨rfl, S0, hbx⟩ := hcut
    clear HS0 HP hz HC HB HT HA c4 cs
    obtain ⟨zs, hz1, hz2⟩ := HR.out.seq HO.out q1
    have hp : Ptrs w.heap.size wc (.slice qa (L.ob h g su).length qc) (zs.map fun z => z.1.1) := by
      have h0 := (HR.out.ptrs q1).below S0.kp
      rw [hqv] at h0
      rw [hz1]
      exact h0
    have hlen : zs.length = (L.ob h g su).length := by rw [← hz1, List.length_map]
    have HZ2 := hide hz2
    clear hz1 hz2
    have hzc := S0.kp.size
    have lwc : w.heap.size + 2 < wc.heap.size := (Array.getElem?_eq_some_iff.1 hbx).1
    have hl60 : zs.length ≤ 60 := by
      have h1 := HO.out.a60
      have h2 := HR.out.len_all
      have h3 := came_len (L := L) (m := m) (s := 2) hh hg
      have h4 : (L.ob h g su).length ≤ (L.ob h g 0).length + (L.ob h g 1).length := by
        rcases su with _ | _ | su
        · omega
        · simp only [Nat.zero_add]; omega
        · have := q1.2.2; omega
      simp only [cameTo, two, List.length_append] at h3
      simp at h3
      omega
    have hcb : wc.cell? ⟨w.heap.size + 2, 0, none⟩ = some (.slice qa (L.ob h g su).length qc) := by simp [World.cell?, hbx]
    clear hbx
    go_wp2
    refine (wpIn_wide (n := 3)).1 ?_
    refine wpIn_rangeFunc_ownG (F := Fence.wide) (n := 3) rfl (by omega) (gf := 96) (lb := #[.pointer (some ⟨w.heap.size + 2, 0, none⟩)]) rfl trivial (enters_of Try.func96 (by kernel_rfl) rfl)
      (values_stops (fun z : { p : Nat × Od // Good w p.1 p.2 } => z.1.1) Fence.wide 2 trivial rfl (by omega) (w.heap.size + 2) w.heap.size (.slice qa (L.ob h g su).length qc) zs (by omega) _ lwc (by omega) hcb hp) belowK_t (belowK_b (by omega)) (Below.refl _ _) (fun _ => rfl)
      (fun pre W => MetSt w o (metL o (pre.map fun z => z.1.2)) W)
      (fun _ _ _ => False)
      (met_own _ w o _ (by omega))
      (fun _ _ _ _ _ hs _ _ => hs)
      S0
      (fun x => { tmps := #[.pointer (some ⟨L.x, 0, none⟩), .agg #[.int .i64 o.id, .int .i64 o.t, .int .i64 o.h, .int .i64 o.g, .int .i64 o.s, .int .i64 o.p, .int .i64 o.q, .int .i64 o.w], undef, .pointer (some ⟨w.heap.size, 0, none⟩), .int .i64 0, .pointer (some ⟨w.heap.size + 1, 0, none⟩), .pointer (some ⟨x.1.1, 0, none⟩), u7, u8, u9, u10, u11, u12, u13, u14, u15, .func (.func 96) #[] #[.pointer (some ⟨w.heap.size + 2, 0, none⟩)], .pointer (some ⟨x.1.1, 0, none⟩), undef, undef, undef, undef, undef, undef, undef, undef, undef, undef, undef, undef, undef, undef, undef, undef, undef, undef], defers := [] })
      ?assign ?body ?done ?stop
    case assign =>
      intro l x W K hK
      gi_wp2
      exact hK
    case body =>
      rintro l pre x W S hlt1
      have hkb : 0 ≤ metL o (pre.map fun z => z.1.2) ∧ metL o (pre.map fun z => z.1.2) ≤ 600000 := by
        have h1 := metL_bd o (pre.map fun z => z.1.2) (fun o ho => by obtain ⟨z, _, rfl⟩ := List.mem_map.1 ho; exact z.2.2.2.2)
        have h2 : ((pre.map fun z => z.1.2).length : Int) ≤ 60 := by rw [List.length_map]; omega
        omega
      have hks : Hid (metL o ((pre ++ [x]).map fun z => z.1.2) = metL o (pre.map fun z => z.1.2) + if x.1.2.t ≠ o.t ∧ pfits o x.1.2 = true then x.1.2.q else 0) := hide (by rw [List.map_append, metL_append]; simp [metL])
      have HT := hide S
      have hx : OdAt W x.1.1 x.1.2 := fun j v hv => ((x.2.1 j v hv).kep (Kep.of_below (S := non) S.kp) (fun q => q))
      have HF := hide (show ∀ k, CallsIn (Fence.wide.inRound l) (3 - 1 - 1 - 1) Try.prog 72 #[.pointer (some ⟨w.heap.size, 0, none⟩), .pointer (some ⟨x.1.1, 0, none⟩)] (W.drewN k) fun e w' => e = .returned (.bool (pfits o x.1.2)) ∧ ∃ n, w' = (W.drewN k).drewN n from fun k =>
        CallsIn.inRound l ((callsIn_wide (n := 3 - 1 - 1 - 1)).2 (pricesFit_any (W.drewN k) _ _ o x.1.2 (fun j v hv => (S.ob j v hv).kep ((Kep.refl non W).drewN k) (fun f => f)) (fun j v hv => (hx j v hv).kep ((Kep.refl non W).drewN k) (fun f => f)))))
      have o1 := (hx 1 _ rfl).cell
      have o6 := (hx 6 _ rfl).cell
      have bq := x.2.2.2.2
      have t1 := (S.ob 1 _ rfl).cell
      have k0 := S.sm.cell
      have k1 := S.sm.free
      have S0le : w.heap.size ≤ W.heap.size := S.kp.size
      have hfn : Fence.wide.fn 72 = True := eq_true trivial
      clear S hx
      generalize metL o (pre.map fun z => z.1.2) = K0 at *
      generalize x.1.1 = b at *
      generalize x.1.2 = z at *
      by_cases e1 : z.t = o.t
      · have hK : Hid (metL o ((pre ++ [x]).map fun z => z.1.2) = K0) := hide (by rw [hks.out, if_neg (fun f => f.1 e1), Int.add_zero])
        have e2 : (z.t == o.t) = true := beq_iff_eq.2 e1
        clear hks
        gi_wp2
        apply meets
        case ways =>
          intro hX
          gi_region_with_o (fail)
          all_goals exact hX
        gi_wp2
        refine ⟨(KeepsOthers.drew _).from _, (Below.refl w.heap.size W).drew, ?_⟩
        show MetSt w o (metL o ((pre ++ [x]).map fun z => z.1.2)) _
        rw [hK.out]
        exact HT.out.later ((Kep.refl _ _).drew)
      · have e2 : (z.t == o.t) = false := beq_eq_false_iff_ne.2 e1
        cases hpf : pfits o z with
        | false =>
          have hK : Hid (metL o ((pre ++ [x]).map fun z => z.1.2) = K0) := hide (by rw [hks.out, if_neg (fun f => by rw [hpf] at f; cases f.2), Int.add_zero])
          rw [hpf] at HF
          clear hks hpf
          gi_wp2
          apply meetsK (W := W)
          case ways =>
            intro hX
            gi_region_with_o (gi_at_call 72; refine (HF.out 1).mono ?_; rintro e w' ⟨rfl, k, rfl⟩)
            all_goals exact hX _
          intro k
          gi_wp2
          refine ⟨(ko_drewN W k).from _, ((Kep.refl non W).drewN k).below (S := non) S0le (fun _ f => f.elim), ?_⟩
          show MetSt w o (metL o ((pre ++ [x]).map fun z => z.1.2)) _
          rw [hK.out]
          exact HT.out.later ((Kep.refl _ _).drewN k)
        | true =>
          have hK : Hid (metL o ((pre ++ [x]).map fun z => z.1.2) = K0 + z.q) := hide (by rw [hks.out, if_pos ⟨e1, hpf⟩])
          rw [hpf] at HF
          clear hks hpf
          gi_wp2
          apply meetsK (W := W)
          case ways =>
            intro hX
            gi_region_with_o (gi_at_call 72; refine (HF.out 1).mono ?_; rintro e w' ⟨rfl, k, rfl⟩)
            all_goals exact hX _
          intro k
          have kk : Kep non W (W.drewN k) := (Kep.refl _ _).drewN k
          have o6' := kk.cell o6 (fun f => f)
          have S2 := HT.out.later kk
          have k0' := S2.sm.cell
          have k1' := S2.sm.free
          have KO := hide (ko_drewN W k)
          have KB := hide (kk.below (B := w.heap.size) S0le (fun _ f => f.elim))
          clear HF o6 o1 t1 k0 k1 HT kk
          generalize W.drewN k = W2 at *
          have HT := hide S2
          clear S2
          gi_wp2
          apply meets
          case ways =>
            intro hX
            gi_region_o
            all_goals exact hX
          gi_wp2
          have w1 : IntKind.i64.wrap (K0 + z.q) = K0 + z.q := IntWalk.i64_in _ (by omega)
          rw [w1]
          refine ⟨((KO.out.trans (KeepsOthers.setCell _ _ _)).trans (KeepsOthers.drew _)).from _, KB.out.trans (((Below.refl w.heap.size W2).setCell (p := ⟨w.heap.size + 1, 0, none⟩) (by simp) _).drew), ?_⟩
          show MetSt w o (metL o ((pre ++ [x]).map fun z => z.1.2)) _
          rw [hK.out]
          exact (HT.out.setK _).later ((Kep.refl _ _).drew)
    case done =>
      rintro D ys W hD rfl S hK
      have HZ := hide (show metL o (ys.map fun z => z.1.2) = m.met o by rw [HZ2.out]; exact HM.out)
      obtain ⟨kk, hkk⟩ : ∃ kk, kk = metL o (ys.map fun z => z.1.2) := ⟨_, rfl⟩
      rw [← hkk] at S HZ
      have HS := hide S
      have HD := hide hK
      have c0 := S.sm.cell
      clear S hK hkk
      go_wp2
      exact met_end HZ.out (by omega) HD.out HS.out
    case stop =>
      rintro D c pre W _ _ h _
      exact h.elim
end

/- Sums over the orders that wait. -/
section
/-- a measure of lists that adds up -/
structure Adds {α : Type} (φ : List α → Int) : Prop where
  nil : φ [] = 0
  app : ∀ a b, φ (a ++ b) = φ a + φ b

theorem Adds.cons {α : Type} {φ : List α → Int} (A : Adds φ) (x : α) (l : List α) : φ (x :: l) = φ [x] + φ l := A.app [x] l

theorem adds_held (t : Int) : Adds (heldL t) := ⟨rfl, heldL_append t⟩
theorem adds_kept (t : Int) : Adds (keptL t) := ⟨rfl, keptL_append t⟩
theorem adds_len {α : Type} : Adds (fun l : List α => (l.length : Int)) := ⟨rfl, fun a b => by simp⟩

theorem adds_upG {α : Type} {φ : List α → Int} (A : Adds φ) (f : Nat → Nat → List α) (g s : Nat) (hs : s < 2) (os : List α) : ∀ G, φ (upG (fun b c => if b = g ∧ c = s then os else f b c) G) = φ (upG f G) + if g < G then φ os - φ (f g s) else 0
  | 0 => by simp [upG]
  | G + 1 => by
    have ih := adds_upG A f g s hs os G
    simp only [upG, two, A.app, ih]
    by_cases e : G = g
    · subst e
      rcases s with _ | _ | s
      · simp; omega
      · simp; omega
      · omega
    · simp only [e, false_and, if_false]
      by_cases q : g < G
      · rw [if_pos q, if_pos (by omega)]; omega
      · rw [if_neg q, if_neg (by omega)]; omega

theorem adds_upH {α : Type} {φ : List α → Int} (A : Adds φ) (G : Nat) (f : Nat → Nat → Nat → List α) (h g s : Nat) (hg : g < G) (hs : s < 2) (os : List α) : ∀ H, φ (upH G (fun a b c => if a = h ∧ b = g ∧ c = s then os else f a b c) H) = φ (upH G f H) + if h < H then φ os - φ (f h g s) else 0
  | 0 => by simp [upH]
  | H + 1 => by
    have ih := adds_upH A G f h g s hg hs os H
    simp only [upH, A.app, ih]
    by_cases e : H = h
    · subst e
      have := adds_upG A (f H) g s hs os G
      simp only [true_and]
      rw [this, if_pos hg, if_neg (Nat.lt_irrefl _), if_pos (Nat.lt_succ_self _)]
      omega
    · have e' : (fun b c => if H = h ∧ b = g ∧ c = s then os else f H b c) = f H := by funext b c; simp [e]
      rw [e']
      by_cases q : h < H
      · rw [if_pos q, if_pos (by omega)]; omega
      · rw [if_neg q, if_neg (by omega)]; omega

/-- the sum of the first n -/
def sumN (f : Nat → Int) : Nat → Int
  | 0 => 0
  | n + 1 => sumN f n + f n

theorem sumN_congr {f k : Nat → Int} : ∀ {n : Nat}, (∀ i, i < n → f i = k i) → sumN f n = sumN k n
  | 0, _ => rfl
  | n + 1, h => by rw [sumN, sumN, sumN_congr (fun i hi => h i (by omega)), h n (by omega)]
theorem sumN_add (f k : Nat → Int) : ∀ n, sumN (fun i => f i + k i) n = sumN f n + sumN k n
  | 0 => rfl
  | n + 1 => by simp only [sumN, sumN_add f k n]; omega
theorem sumN_zero : ∀ n, sumN (fun _ => 0) n = 0
  | 0 => rfl
  | n + 1 => by simp only [sumN, sumN_zero n]; omega
theorem sumN_upd (f : Nat → Int) (k : Nat) (x : Int) : ∀ n, sumN (fun i => if i = k then x else f i) n = sumN f n + if k < n then x - f k else 0
  | 0 => by simp [sumN]
  | n + 1 => by
    simp only [sumN, sumN_upd f k x n]
    by_cases e : n = k
    · subst e; simp; omega
    · rw [if_neg e]
      by_cases q : k < n
      · rw [if_pos q, if_pos (by omega)]; omega
      · rw [if_neg q, if_neg (by omega)]; omega
theorem sumN_one (k : Nat) (x : Int) (n : Nat) : sumN (fun i => if i = k then x else 0) n = if k < n then x else 0 := by
  rw [sumN_upd (fun _ => 0), sumN_zero]; simp
theorem sumN_nonneg {f : Nat → Int} : ∀ {n : Nat}, (∀ i, i < n → 0 ≤ f i) → 0 ≤ sumN f n
  | 0, _ => by simp [sumN]
  | n + 1, h => by
    have := sumN_nonneg (f := f) (n := n) (fun i hi => h i (by omega))
    have := h n (by omega)
    simp only [sumN]; omega
theorem sumN_le {f : Nat → Int} : ∀ {n : Nat}, (∀ i, i < n → 0 ≤ f i) → ∀ k, k < n → f k ≤ sumN f n
  | 0, _, k, hk => by omega
  | n + 1, h, k, hk => by
    have h1 := sumN_nonneg (f := f) (n := n) (fun i hi => h i (by omega))
    have h2 := h n (by omega)
    simp only [sumN]
    by_cases e : k = n
    · subst e; omega
    · have := sumN_le (f := f) (n := n) (fun i hi => h i (by omega)) k (by omega)
      omega

/-- what is held of all traders' money; of all their pieces -/
def heldS (T : Nat) (l : List Od) : Int := sumN (fun j => heldL j l) T
def keptS (T : Nat) (l : List Od) : Int := sumN (fun j => keptL j l) T

theorem adds_heldS (T : Nat) : Adds (heldS T) :=
  ⟨by simp only [heldS, heldL]; exact sumN_zero T, fun a b => by simp only [heldS, heldL_append]; exact sumN_add _ _ T⟩
theorem adds_keptS (T : Nat) : Adds (keptS T) :=
  ⟨by simp only [keptS, keptL]; exact sumN_zero T, fun a b => by simp only [keptS, keptL_append]; exact sumN_add _ _ T⟩

theorem heldS_one {T : Nat} {o : Od} (h : 0 ≤ o.t ∧ o.t < T) : heldS T [o] = if o.s = 0 then o.p * o.q else 0 := by
  have e : (fun j : Nat => heldL j [o]) = fun j => if j = o.t.toNat then (if o.s = 0 then o.p * o.q else 0) else 0 := by
    funext j
    simp only [heldL]
    by_cases q : j = o.t.toNat
    · have e : o.t = j := by omega
      rw [if_pos q]
      simp [e]
    · have e : ¬ o.t = j := by omega
      rw [if_neg q]
      simp [e]
  rw [heldS, e, sumN_one, if_pos (by omega)]

theorem keptS_one {T : Nat} {o : Od} (h : 0 ≤ o.t ∧ o.t < T) : keptS T [o] = o.q := by
  have e : (fun j : Nat => keptL j [o]) = fun j => if j = o.t.toNat then o.q else 0 := by
    funext j
    simp only [keptL]
    by_cases q : j = o.t.toNat
    · have e : o.t = j := by omega
      rw [if_pos q]
      simp [e]
    · have e : ¬ o.t = j := by omega
      rw [if_neg q]
      simp [e]
  rw [keptS, e, sumN_one, if_pos (by omega)]
end

end Go.Proofs.Ytcfoobhihhndjaa
