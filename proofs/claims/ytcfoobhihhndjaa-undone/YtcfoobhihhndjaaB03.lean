/- The program's market: all orders that wait. -/
import Derived.BigQuiet
import Derived.Deep.AppendLies
import Derived.Deep.Cut
import Derived.Deep.QuietTactic
import Derived.Lib.QuietBelow
import Derived.Test.YtcfoobhihhndjaaB02
namespace Go.Proofs.Ytcfoobhihhndjaa

section
open Go.RowKit

theorem upG_len_le {f : Nat → Nat → List Nat} {g G : Nat} (h : g ≤ G) : (upG f g).length ≤ (upG f G).length := by
  induction G with
  | zero => obtain rfl : g = 0 := by omega
            exact Nat.le_refl _
  | succ k ih =>
    by_cases e : g = k + 1
    · rw [e]; exact Nat.le_refl _
    · have := ih (by omega)
      simp only [upG, List.length_append]
      omega
theorem upH_len_le {G : Nat} {f : Nat → Nat → Nat → List Nat} {h H : Nat} (hh : h ≤ H) : (upH G f h).length ≤ (upH G f H).length := by
  induction H with
  | zero => obtain rfl : h = 0 := by omega
            exact Nat.le_refl _
  | succ k ih =>
    by_cases e : h = k + 1
    · rw [e]; exact Nat.le_refl _
    · have := ih (by omega)
      simp only [upH, List.length_append]
      omega

/-- how far the three loops have come -/
def cameTo (L : PL) (m : Mt) (h g s : Nat) : List Nat := upH m.G L.ob h ++ (upG (L.ob h) g ++ (if s = 0 then [] else if s = 1 then L.ob h g 0 else two (L.ob h g)))

theorem came_len {L : PL} {m : Mt} {h g s : Nat} (hh : h < m.H) (hg : g < m.G) : (cameTo L m h g s).length ≤ (L.all m).length := by
  have h1 := upH_len_le (G := m.G) (f := L.ob) (h := h + 1) (H := m.H) (by omega)
  have h2 := upG_len_le (f := L.ob h) (g := g + 1) (G := m.G) (by omega)
  simp only [cameTo, PL.all, upH, upG, two, List.length_append] at *
  split
  · simp; omega
  · split
    · omega
    · simp only [List.length_append]; omega

theorem ixBuy (a b : Option Addr) (w : World) : (Instr.index 100 (.agg #[.pointer a, .pointer b]) (.int .i64 0)).run Try.prog w = .ok (.pointer a) w := by
  simp [Instr.index, run_underlying Try.underlying100, asIntOf, go_sem]
theorem ixSell (a b : Option Addr) (w : World) : (Instr.index 100 (.agg #[.pointer a, .pointer b]) (.int .i64 1)).run Try.prog w = .ok (.pointer b) w := by
  simp [Instr.index, run_underlying Try.underlying100, asIntOf, go_sem]

/-- one queue more -/
theorem app_one {w V : World} {L : PL} {m : Mt} (R : PRep w L m) (hB : Below w.heap.size w V) {h g s : Nat} (q : at3 m h g s) {a : Option Addr} {len cap : Nat} {ps : List Nat} (hrow : V.ownsRow w.heap.size 90 1 (.slice a len cap) ps.length (ps.map optr)) (hl : ps.length + (L.ob h g s).length ≤ 1000000) :
    ∃ (a' : Option Addr) (n' c' : Nat), V.cell? ⟨L.qb h g s, 1, none⟩ = some (.slice a' n' c') ∧
      Hid (Calls Try.prog 62 #[.slice a len cap, .func (.func 96) #[] #[.pointer (some ⟨V.heap.size, 0, none⟩)]] (V.alloc (.cells #[.slice a' n' c'] 88)) fun e W' => ∃ v, e = .returned v ∧ W'.ownsRow w.heap.size 90 1 v (ps ++ L.ob h g s).length ((ps ++ L.ob h g s).map optr) ∧ Below w.heap.size w W') := by
  obtain ⟨a', c', e⟩ := R.qvform q
  have c1 := ((R.bel hB).q1 h g s q).cell
  have hp := (R.ptrs q).below hB
  rw [e] at c1 hp
  refine ⟨a', _, c', c1, hide ?_⟩
  have hB2 : Below w.heap.size w (V.alloc (.cells #[.slice a' (L.ob h g s).length c'] 88)) := hB.alloc hB.size _
  refine ((callsIn_wide (n := 3)).1 (appendSeq_in Fence.wide 3 trivial trivial rfl (Nat.le_refl _) _ w.heap.size V.heap.size a len cap (.slice a' (L.ob h g s).length c') ps (L.ob h g s) (by have := hB.size; simp; omega) hl (hrow.alloc _) ?_ (hp.below ((Below.refl _ _).alloc hB.size _)))).mono ?_
  · exact (Boxed.new V 88 _).cell
  · rintro e W' ⟨v, rfl, h1, h2⟩
    exact ⟨v, rfl, by simpa using h1, hB2.trans h2⟩

theorem row_form {w : World} {B : Nat} {e : TypeId} {z : Nat} {v : Value} {n : Nat} {xs : List Value} (h : w.ownsRow B e z v n xs) : ∃ a c, v = .slice a n c := by
  rcases h.2 with ⟨h1, h2⟩ | ⟨_, _, _, h1, _⟩
  · exact ⟨none, 0, by rw [h1, h2]⟩
  · exact ⟨_, _, h1⟩

set_option maxRecDepth 100000 in
set_option maxHeartbeats 4000000 in
theorem waiting_any (w : World) (L : PL) (m : Mt) (N : Int) (R : PRep w L m) (ok : m.Ok N) (hl : (L.all m).length ≤ 60) :
    Calls Try.prog 38 #[.pointer (some ⟨L.x, 0, none⟩)] w fun e w' => ∃ v, e = .returned v ∧ w'.ownsRow w.heap.size 90 1 v (L.all m).length ((L.all m).map optr) ∧ Below w.heap.size w w' := by
  have c4 := R.cB.cell
  have bH := ok.H4
  have bG := ok.G4
  have HR := hide R
  have HL := hide hl
  have ix0 := ixBuy
  have ix1 := ixSell
  clear R
  go_enter Try.func38, Try.ntmps38
  go_wp2
  go_loopw [3, 15] (fun a i wr => ∃ h : Nat, h ≤ m.H ∧ i = .int .i64 h ∧ wr.ownsRow w.heap.size 90 1 a (upH m.G L.ob h).length ((upH m.G L.ob h).map optr) ∧ Below w.heap.size w wr) (fun _ i _ => m.H - (intOf i).toNat)
  case atStart => exact ⟨0, by omega, rfl, World.ownsRow_nil _ _ _ _, Below.refl _ _⟩
  case round =>
    obtain ⟨h, hh, rfl, hown, hB⟩ := hrel
    by_cases hlt : h < m.H
    · have hlt' : (h : Int) < (m.H : Int) := by omega
      have b1 : wr.cell? ⟨L.bb, h, none⟩ = some (.slice (some ⟨L.gb h, 0, none⟩) m.G m.G) := (HR.out.bel hB).bks h hlt
      have st0 : wr.ownsRow w.heap.size 90 1 u3 (cameTo L m h 0 0).length ((cameTo L m h 0 0).map optr) := by simpa [cameTo, upG] using hown
      clear hown
      go_wp2
      go_loopw [3, 21] (fun a i wr => ∃ g : Nat, g ≤ m.G ∧ i = .int .i64 g ∧ wr.ownsRow w.heap.size 90 1 a (cameTo L m h g 0).length ((cameTo L m h g 0).map optr) ∧ Below w.heap.size w wr) (fun _ i _ => m.G - (intOf i).toNat)
      case atStart => exact ⟨0, by omega, rfl, st0, hB⟩
      case round =>
        clear st0 hB b1
        obtain ⟨g, hg, rfl, hown, hB⟩ := hrel
        by_cases hlg : g < m.G
        · have hlg' : (g : Int) < (m.G : Int) := by omega
          have Rr := HR.out.bel hB
          have d0 : wr.cell? ⟨L.gb h, g * 5, none⟩ = some (.pointer (some ⟨L.qb h g 0, 0, none⟩)) := (Rr.sd h g 0 ⟨hlt, hlg, by omega⟩).cell
          have d1 : wr.cell? ⟨L.gb h, g * 5 + 1, none⟩ = some (.pointer (some ⟨L.qb h g 1, 0, none⟩)) := (Rr.sd h g 1 ⟨hlt, hlg, by omega⟩).cell
          have d2 := (Rr.la h g hlt hlg).cell
          have d3 := (Rr.pi h g hlt hlg).cell
          have d4 := (Rr.am h g hlt hlg).cell
          clear Rr
          have hB2 : Below w.heap.size w (wr.alloc (.cells #[.pointer (some ⟨L.qb h g 0, 0, none⟩), .pointer (some ⟨L.qb h g 1, 0, none⟩), .int .i64 (m.la h g), .int .i64 (m.pi h g), .int .i64 (m.am h g)] 102)) := hB.alloc hB.size _
          have hown2 := hown.alloc (.cells #[.pointer (some ⟨L.qb h g 0, 0, none⟩), .pointer (some ⟨L.qb h g 1, 0, none⟩), .int .i64 (m.la h g), .int .i64 (m.pi h g), .int .i64 (m.am h g)] 102)
          go_wp2
          clear hown hB d0 d1 d2 d3 d4
          go_loopw [3, 27] (fun a i wr => ∃ s : Nat, s ≤ 2 ∧ i = .int .i64 s ∧ wr.ownsRow w.heap.size 90 1 a (cameTo L m h g s).length ((cameTo L m h g s).map optr) ∧ Below w.heap.size w wr) (fun _ i _ => 2 - (intOf i).toNat)
          case atStart => exact ⟨0, by omega, rfl, hown2, hB2⟩
          case round =>
            clear hown2 hB2
            obtain ⟨s, hs, rfl, hown, hB⟩ := hrel
            obtain ⟨ra, rc, rfl⟩ := row_form hown
            have hcl := came_len (L := L) (m := m) (s := s) hlt hlg
            rcases s with _ | _ | _ | s
            · obtain ⟨a', n', c', c1, HA⟩ := app_one HR.out hB (h := h) (g := g) (s := 0) ⟨hlt, hlg, by omega⟩ hown (by have := came_len (L := L) (m := m) (s := 1) hlt hlg; simp [cameTo] at this hcl ⊢; omega)
              go_wp2_with (first | (go_at_call 63; refine (all_any _ _ _ _ _ c1).mono ?_; rintro e w' ⟨rfl, rfl⟩) | (go_at_call 62; refine HA.out.mono ?_; rintro e W2 ⟨v2, rfl, hown2, hB2⟩; obtain ⟨ra2, rc2, rfl⟩ := row_form hown2))
              exact ⟨⟨1, by omega, by go_num, by simpa [cameTo, Nat.add_assoc] using hown2, hB2⟩, by simp [intOf]⟩
            · obtain ⟨a', n', c', c1, HA⟩ := app_one HR.out hB (h := h) (g := g) (s := 1) ⟨hlt, hlg, by omega⟩ hown (by have := came_len (L := L) (m := m) (s := 2) hlt hlg; simp [cameTo, two] at this hcl ⊢; omega)
              go_wp2_with (first | (go_at_call 63; refine (all_any _ _ _ _ _ c1).mono ?_; rintro e w' ⟨rfl, rfl⟩) | (go_at_call 62; refine HA.out.mono ?_; rintro e W2 ⟨v2, rfl, hown2, hB2⟩; obtain ⟨ra2, rc2, rfl⟩ := row_form hown2))
              exact ⟨⟨2, by omega, by go_num, by simpa [cameTo, two, Nat.add_assoc] using hown2, hB2⟩, by simp [intOf]⟩
            · go_wp2
              exact ⟨⟨g + 1, by omega, by go_num, by simpa [cameTo, upG] using hown, hB⟩, by simp [intOf]; omega⟩
            · omega
        · have e : g = m.G := by omega
          have hown2 : wr.ownsRow w.heap.size 90 1 u3 (upH m.G L.ob (h + 1)).length ((upH m.G L.ob (h + 1)).map optr) := by
            rw [e] at hown
            simpa [cameTo, upH] using hown
          clear hown
          go_wp2
          exact ⟨⟨h + 1, by omega, by go_num, hown2, hB⟩, by simp [intOf]; omega⟩
    · have e : h = m.H := by omega
      have hown2 : wr.ownsRow w.heap.size 90 1 u3 (L.all m).length ((L.all m).map optr) := by
        rw [e] at hown
        exact hown
      clear hown
      go_wp2
      go_ret
      exact ⟨_, rfl, hown2, hB⟩
end

/- The program's market: what is held of a trader's money; all money. -/
section
open Go.RowKit Go.Sort

/-- two lists, pair by pair -/
def All2 {α β : Type} (R : α → β → Prop) : List α → List β → Prop
  | [], [] => True
  | x :: a, y :: b => R x y ∧ All2 R a b
  | _, _ => False

/-- an order lies in a block -/
def OdAt (w : World) (b : Nat) (o : Od) : Prop := ∀ j v, o.cells[j]? = some v → Own w ⟨b, j, none⟩ v

theorem forall2_get {α β : Type} {R : α → β → Prop} : ∀ {a : List α} {b : List β}, All2 R a b → a.length = b.length ∧ ∀ (i : Nat) (x : α) (y : β), a[i]? = some x → b[i]? = some y → R x y
  | [], [], _ => ⟨rfl, fun i x y q => by simp at q⟩
  | [], _ :: _, h => h.elim
  | _ :: _, [], h => h.elim
  | u :: a, v :: b, h => by
    have ih := forall2_get h.2
    refine ⟨by simp [ih.1], fun i x y q1 q2 => ?_⟩
    rcases i with _ | i
    · simp at q1 q2; subst q1; subst q2; exact h.1
    · exact ih.2 i x y (by simpa using q1) (by simpa using q2)

theorem forall2_of {α β : Type} {R : α → β → Prop} : ∀ {a : List α} {b : List β}, a.length = b.length → (∀ (i : Nat) (x : α) (y : β), a[i]? = some x → b[i]? = some y → R x y) → All2 R a b
  | [], [], _, _ => trivial
  | [], _ :: _, h, _ => by simp at h
  | _ :: _, [], h, _ => by simp at h
  | x :: a, y :: b, h, f => ⟨f 0 x y rfl rfl, forall2_of (by simpa using h) fun i u v q1 q2 => f (i + 1) u v (by simpa using q1) (by simpa using q2)⟩

theorem forall2_append {α β : Type} {R : α → β → Prop} {a' : List α} {b' : List β} (h' : All2 R a' b') : ∀ {a : List α} {b : List β}, All2 R a b → All2 R (a ++ a') (b ++ b')
  | [], [], _ => h'
  | [], _ :: _, h => h.elim
  | _ :: _, [], h => h.elim
  | _ :: _, _ :: _, h => ⟨h.1, forall2_append h' h.2⟩

theorem forall2_upG {α β : Type} {R : α → β → Prop} {f : Nat → Nat → List α} {k : Nat → Nat → List β} : ∀ G, (∀ g s, g < G → s < 2 → All2 R (f g s) (k g s)) → All2 R (upG f G) (upG k G)
  | 0, _ => trivial
  | G + 1, h => forall2_append (forall2_append (h G 1 (by omega) (by omega)) (h G 0 (by omega) (by omega))) (forall2_upG G fun g s hg hs => h g s (by omega) hs)

theorem forall2_upH {α β : Type} {R : α → β → Prop} {G : Nat} {f : Nat → Nat → Nat → List α} {k : Nat → Nat → Nat → List β} : ∀ H, (∀ h g s, h < H → g < G → s < 2 → All2 R (f h g s) (k h g s)) → All2 R (upH G f H) (upH G k H)
  | 0, _ => trivial
  | H + 1, q => forall2_append (forall2_upG G fun g s hg hs => q H g s (by omega) hg hs) (forall2_upH H fun h g s hh hg hs => q h g s (by omega) hg hs)

theorem PRep.one {w : World} {L : PL} {m : Mt} (R : PRep w L m) {h g s : Nat} (q : at3 m h g s) : All2 (OdAt w) (L.ob h g s) (m.bk h g s) :=
  forall2_of (R.ln h g s q) fun i x y q1 q2 => R.oc h g s i x y q q1 q2

theorem PRep.odall {w : World} {L : PL} {m : Mt} (R : PRep w L m) : All2 (OdAt w) (L.all m) m.all :=
  forall2_upH m.H fun _ _ _ hh hg hs => R.one ⟨hh, hg, hs⟩

theorem PRep.len_all {w : World} {L : PL} {m : Mt} (R : PRep w L m) : (L.all m).length = m.all.length := (forall2_get R.odall).1

theorem OdAt.below {w w' : World} {b : Nat} {o : Od} (h : OdAt w b o) (k : Below w.heap.size w w') : OdAt w' b o := fun j v q => (h j v q).kep (Kep.of_below (S := non) k) (fun q => q)

theorem heldL_take {t : Int} {l : List Od} {k : Nat} (hk : k < l.length) : heldL t (l.take (k + 1)) = heldL t (l.take k) + if l[k].t = t ∧ l[k].s = 0 then l[k].p * l[k].q else 0 := by
  rw [List.take_succ_eq_append_getElem hk, heldL_append]
  simp [heldL]

theorem heldL_take_bd {m : Mt} {N : Int} (ok : m.Ok N) (t : Int) (k : Nat) : 0 ≤ heldL t (m.all.take k) ∧ heldL t (m.all.take k) ≤ 60000000000 := by
  have h := heldL_bd t (m.all.take k) (fun o ho => ⟨(ok.all_ok (List.mem_of_mem_take ho)).2.2.1, (ok.all_ok (List.mem_of_mem_take ho)).2.2.2⟩)
  have := ok.a60
  have : (m.all.take k).length ≤ 60 := by rw [List.length_take]; omega
  omega

theorem held_bd {m : Mt} {N : Int} (ok : m.Ok N) (t : Int) : 0 ≤ m.held t ∧ m.held t ≤ 60000000000 := by
  have := heldL_take_bd ok t m.all.length
  rwa [List.take_length] at this

set_option maxRecDepth 100000 in
set_option maxHeartbeats 4000000 in
theorem heldMoney_any (w : World) (L : PL) (m : Mt) (N t : Int) (R : PRep w L m) (ok : m.Ok N) :
    Calls Try.prog 48 #[.pointer (some ⟨L.x, 0, none⟩), .int .i64 t] w fun e w' => e = .returned (.int .i64 (m.held t)) ∧ Below w.heap.size w w' := by
  have hlen := R.len_all
  have h60 := ok.a60
  have HW := hide (waiting_any w L m N R ok (by omega))
  have HF := hide (forall2_get R.odall).2
  have HO := hide ok
  clear R ok
  go_enter Try.func48, Try.ntmps48
  go_wp2_with fail
  refine HW.out.mono ?_
  rintro e W ⟨v, rfl, hown, hB⟩
  obtain ⟨ra, rc, rfl⟩ := row_form hown
  have HRow := hide hown
  clear hown HW
  go_wp2
  go_loopw [5, 11] (fun a i wr => ∃ k : Nat, k ≤ m.all.length ∧ i = .int .i64 k ∧ a = .int .i64 (heldL t (m.all.take k)) ∧ Below W.heap.size W wr) (fun _ i _ => m.all.length - (intOf i).toNat)
  case atStart => exact ⟨0, by omega, rfl, rfl, Below.refl _ _⟩
  case round =>
    obtain ⟨k, hk, rfl, rfl, hB2⟩ := hrel
    by_cases hlt : k < m.all.length
    · have hb : k < (L.all m).length := by omega
      have hlt' : (k : Int) < ((L.all m).length : Int) := by omega
      obtain ⟨pb, pc, hpv, _, _⟩ := HRow.out.form (by omega)
      simp only [Value.slice.injEq, true_and] at hpv
      obtain ⟨rfl, rfl⟩ := hpv
      have c0 : wr.cell? ⟨pb, k, none⟩ = some (.pointer (some ⟨(L.all m)[k], 0, none⟩)) := by
        refine (Kep.of_below (S := non) hB2).cell ?_ (fun q => q)
        rw [HRow.out.cellAt k (by omega)]
        simp [hb, optr]
      have od : OdAt wr (L.all m)[k] m.all[k] := ((HF.out k _ _ (by simp [hb]) (by simp [hlt])).below hB).below hB2
      have o1 := (od 1 _ rfl).cell
      have o4 := (od 4 _ rfl).cell
      have o5 := (od 5 _ rfl).cell
      have o6 := (od 6 _ rfl).cell
      have bo := HO.out.all_ok (List.getElem_mem hlt)
      have HS := hide (heldL_take (t := t) hlt)
      have b1 := heldL_take_bd HO.out t k
      have b2 := mul_le' (a := m.all[k].p) (b := m.all[k].q) (A := 100000) (B := 10000) (by omega) (by omega) (by omega) (by omega)
      generalize m.all[k] = o at *
      generalize heldL t (m.all.take k) = S at *
      clear od
      by_cases e1 : o.t = t
      · by_cases e2 : o.s = 0
        · have e3 : Hid (S + o.p * o.q = heldL t (m.all.take (k + 1))) := hide (by rw [HS.out, if_pos ⟨e1, e2⟩])
          go_wp2
          go_quiet (fail)
          go_wp2
          exact ⟨⟨k + 1, by omega, by go_num, by rw [← e3.out], below_drewN hB2 _⟩, by simp [intOf]; omega⟩
        · have e3 : Hid (S = heldL t (m.all.take (k + 1))) := hide (by rw [HS.out, if_neg (fun q => e2 q.2), Int.add_zero])
          go_wp2
          exact ⟨⟨k + 1, by omega, by go_num, by rw [← e3.out], hB2⟩, by simp [intOf]; omega⟩
      · have e3 : Hid (S = heldL t (m.all.take (k + 1))) := hide (by rw [HS.out, if_neg (fun q => e1 q.1), Int.add_zero])
        go_wp2
        exact ⟨⟨k + 1, by omega, by go_num, by rw [← e3.out], hB2⟩, by simp [intOf]; omega⟩
    · have e : Hid (heldL t (m.all.take k) = m.held t) := hide (by rw [List.take_of_length_le (by omega)]; rfl)
      go_wp2
      go_ret
      exact ⟨by rw [← e.out]; rfl, hB.trans (hB2.mono hB.size)⟩

theorem mixed : Try.prog.follows .mixedOrders = true := by kernel_rfl

/-- the house's money, and all that the first j traders have -/
def Mt.sumM (m : Mt) : Nat → Int
  | 0 => m.ho
  | j + 1 => m.sumM j + (m.mo j + m.held j)

theorem sumM_bd {m : Mt} {N : Int} (ok : m.Ok N) : ∀ j, j ≤ m.T → 0 ≤ m.sumM j ∧ m.sumM j ≤ 1000000000000 + 1060000000000 * (j : Int)
  | 0, _ => by have := ok.ho; simp only [Mt.sumM]; omega
  | j + 1, h => by
    have h1 := sumM_bd ok j (by omega)
    have h2 := ok.mo j (by omega)
    have h3 := held_bd ok j
    simp only [Mt.sumM]
    omega

/-- the cells of one account -/
theorem acct_cells {w : World} {L : PL} {m : Mt} (R : PRep w L m) (t : Nat) (ht : t < m.T) (h g : Nat) (hh : h < 4) (hg : g < 4) (k : Nat) (hk : k = 1 + h * 4 + g) : w.cell? ⟨L.ab, t * 17 + k, none⟩ = some (.int .i64 (m.pc t h g)) := by
  subst hk
  have := (R.pc t h g ht hh hg).cell
  rw [show t * 17 + (1 + h * 4 + g) = t * 17 + 1 + h * 4 + g from by omega]
  exact this

set_option maxRecDepth 100000 in
set_option maxHeartbeats 4000000 in
theorem allMoney_any (w : World) (L : PL) (m : Mt) (N : Int) (R : PRep w L m) (ok : m.Ok N) :
    Calls Try.prog 60 #[.pointer (some ⟨L.x, 0, none⟩)] w fun e w' => e = .returned (.int .i64 (m.sumM m.T)) ∧ Below w.heap.size w w' := by
  have c2 := R.cA.cell
  have c6 := R.cH.cell
  have bT := ok.T8
  have bh := ok.ho
  have HR := hide R
  have HO := hide ok
  clear R ok
  go_enter Try.func60, Try.ntmps60
  go_wp2
  go_loopw [3, 15] (fun a i wr => ∃ j : Nat, j ≤ m.T ∧ i = .int .i64 j ∧ a = .int .i64 (m.sumM j) ∧ Below w.heap.size w wr) (fun _ i _ => m.T - (intOf i).toNat)
  case atStart => exact ⟨0, Nat.zero_le _, rfl, rfl, Below.refl _ _⟩
  case round =>
    obtain ⟨j, hj, rfl, rfl, hB⟩ := hrel
    have bs := sumM_bd HO.out j hj
    by_cases hlt : j < m.T
    · have Rr := HR.out.bel hB
      have cm := (Rr.mo j hlt).cell
      have bj := HO.out.mo j hlt
      have bq := held_bd HO.out j
      have a1 := acct_cells Rr j hlt 0 0 (by decide) (by decide) 1 rfl
      have a2 := acct_cells Rr j hlt 0 1 (by decide) (by decide) 2 rfl
      have a3 := acct_cells Rr j hlt 0 2 (by decide) (by decide) 3 rfl
      have a4 := acct_cells Rr j hlt 0 3 (by decide) (by decide) 4 rfl
      have a5 := acct_cells Rr j hlt 1 0 (by decide) (by decide) 5 rfl
      have a6 := acct_cells Rr j hlt 1 1 (by decide) (by decide) 6 rfl
      have a7 := acct_cells Rr j hlt 1 2 (by decide) (by decide) 7 rfl
      have a8 := acct_cells Rr j hlt 1 3 (by decide) (by decide) 8 rfl
      have a9 := acct_cells Rr j hlt 2 0 (by decide) (by decide) 9 rfl
      have a10 := acct_cells Rr j hlt 2 1 (by decide) (by decide) 10 rfl
      have a11 := acct_cells Rr j hlt 2 2 (by decide) (by decide) 11 rfl
      have a12 := acct_cells Rr j hlt 2 3 (by decide) (by decide) 12 rfl
      have a13 := acct_cells Rr j hlt 3 0 (by decide) (by decide) 13 rfl
      have a14 := acct_cells Rr j hlt 3 1 (by decide) (by decide) 14 rfl
      have a15 := acct_cells Rr j hlt 3 2 (by decide) (by decide) 15 rfl
      have a16 := acct_cells Rr j hlt 3 3 (by decide) (by decide) 16 rfl
      have HS := hide (show m.sumM (j + 1) = m.sumM j + (m.mo j + m.held j) from rfl)
      have HB2 : Hid (Below w.heap.size w (wr.alloc (.cells #[.int .i64 (m.mo j), .int .i64 (m.pc j 0 0), .int .i64 (m.pc j 0 1), .int .i64 (m.pc j 0 2), .int .i64 (m.pc j 0 3), .int .i64 (m.pc j 1 0), .int .i64 (m.pc j 1 1), .int .i64 (m.pc j 1 2), .int .i64 (m.pc j 1 3), .int .i64 (m.pc j 2 0), .int .i64 (m.pc j 2 1), .int .i64 (m.pc j 2 2), .int .i64 (m.pc j 2 3), .int .i64 (m.pc j 3 0), .int .i64 (m.pc j 3 1), .int .i64 (m.pc j 3 2), .int .i64 (m.pc j 3 3)] 85))) := hide (hB.alloc hB.size _)
      have z0 : (wr.alloc (.cells #[.int .i64 (m.mo j), .int .i64 (m.pc j 0 0), .int .i64 (m.pc j 0 1), .int .i64 (m.pc j 0 2), .int .i64 (m.pc j 0 3), .int .i64 (m.pc j 1 0), .int .i64 (m.pc j 1 1), .int .i64 (m.pc j 1 2), .int .i64 (m.pc j 1 3), .int .i64 (m.pc j 2 0), .int .i64 (m.pc j 2 1), .int .i64 (m.pc j 2 2), .int .i64 (m.pc j 2 3), .int .i64 (m.pc j 3 0), .int .i64 (m.pc j 3 1), .int .i64 (m.pc j 3 2), .int .i64 (m.pc j 3 3)] 85)).cell? ⟨wr.heap.size, 0, none⟩ = some (.int .i64 (m.mo j)) := cell_of_row _ _ 0 _ _ _ (heap_alloc_new wr (.cells #[.int .i64 (m.mo j), .int .i64 (m.pc j 0 0), .int .i64 (m.pc j 0 1), .int .i64 (m.pc j 0 2), .int .i64 (m.pc j 0 3), .int .i64 (m.pc j 1 0), .int .i64 (m.pc j 1 1), .int .i64 (m.pc j 1 2), .int .i64 (m.pc j 1 3), .int .i64 (m.pc j 2 0), .int .i64 (m.pc j 2 1), .int .i64 (m.pc j 2 2), .int .i64 (m.pc j 2 3), .int .i64 (m.pc j 3 0), .int .i64 (m.pc j 3 1), .int .i64 (m.pc j 3 2), .int .i64 (m.pc j 3 3)] 85))
      go_upto_region 5 with fail
      clear Rr hB a1 a2 a3 a4 a5 a6 a7 a8 a9 a10 a11 a12 a13 a14 a15 a16 cm
      generalize wr.alloc (.cells #[.int .i64 (m.mo j), .int .i64 (m.pc j 0 0), .int .i64 (m.pc j 0 1), .int .i64 (m.pc j 0 2), .int .i64 (m.pc j 0 3), .int .i64 (m.pc j 1 0), .int .i64 (m.pc j 1 1), .int .i64 (m.pc j 1 2), .int .i64 (m.pc j 1 3), .int .i64 (m.pc j 2 0), .int .i64 (m.pc j 2 1), .int .i64 (m.pc j 2 2), .int .i64 (m.pc j 2 3), .int .i64 (m.pc j 3 0), .int .i64 (m.pc j 3 1), .int .i64 (m.pc j 3 2), .int .i64 (m.pc j 3 3)] 85) = W1 at *
      generalize wr.heap.size = zb at *
      have z0' := cell_regrown z0
      have cH : Hid (∀ d os, Calls Try.prog 48 #[.pointer (some ⟨L.x, 0, none⟩), .int .i64 j] (grow (redrawn W1 d) os) fun e w'' => e = .returned (.int .i64 (m.held j)) ∧ ∃ p : Regrown, w'' = grow (redrawn W1 p.d) p.os) :=
        hide fun d os => Calls.regrown_of (heldMoney_any _ L m N j ((HR.out.bel HB2.out).bel (below_regrown W1 d os)) HO.out)
      generalize m.held j = hd at *
      refine wp_region_quiet_below mixed (by kernel_rfl) ?_
      repeat (quiet_step (first | exact cH.out _ _))
      refine wpQuiet_nil ?_
      intro _ hw'
      obtain ⟨⟨dq, osq⟩, hw''⟩ := hw'
      subst hw''
      go_wp2
      have w1 : IntKind.i64.wrap (m.mo j + hd) = m.mo j + hd := IntWalk.i64_in _ (by omega)
      have w2 : IntKind.i64.wrap (m.sumM j + (m.mo j + hd)) = m.sumM j + (m.mo j + hd) := IntWalk.i64_in _ (by omega)
      refine ⟨⟨j + 1, by omega, by go_num, ?_, HB2.out.trans ((below_regrown W1 dq osq).mono HB2.out.size)⟩, by simp [intOf]; omega⟩
      rw [w1, w2, HS.out]
    · have e1 : Hid (m.sumM j = m.sumM m.T) := hide (by rw [show j = m.T by omega])
      go_wp2
      go_ret
      exact ⟨by rw [← e1.out]; rfl, hB⟩
end

end Go.Proofs.Ytcfoobhihhndjaa
