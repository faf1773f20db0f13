/- The program's market: trade, the one who came sells. -/
import Derived.ScopeJumps
import Derived.Sort.QuietTacIn
import Derived.Test.YtcfoobhihhndjaaGreatB08
import Derived.Test.YtcfoobhihhndjaaGreatB09
import Derived.Test.YtcfoobhihhndjaaGreatB12
import Derived.WalkMore
namespace Go.Proofs.YtcfoobhihhndjaaGreat

section
open Go.RowKit Go.Sort

set_option maxHeartbeats 8000000 in
set_option maxRecDepth 100000 in
theorem trade_sell (w : World) (L : PL) (m : Mt) (N : Int) (R : PRep w L m) (ok : m.Ok N) {h g i xb yb tb ts : Nat} (o z : Od) (q : at3 m h g 0) (hi : (L.ob h g 0)[i]? = some yb) (hz : (m.bk h g 0)[i]? = some z) (hx : OdAt w xb o) (hxp : Plain w xb) (hxS : ¬ L.S m xb) (hxr : xb ≠ L.rb) (hxb : xb ≠ L.bb)
    (et : o.t = ts) (eh : o.h = h) (eg : o.g = g) (es : o.s = 1) (hts : ts < m.T) (ets : z.t = tb) (hne : tb ≠ ts) (hoq : 1 ≤ o.q ∧ o.q ≤ 10000) (n : Int) (hn : min o.q z.q = n) (f : Int) (hf : m.fee h (z.p * n) = f) :
    Calls Tryz.prog 100 #[.pointer (some ⟨L.x, 0, none⟩), .pointer (some ⟨xb, 0, none⟩), .pointer (some ⟨yb, 0, none⟩)] w fun e w' => e = .returned (.agg #[.int .i64 o.id, .int .i64 z.id, .int .i64 z.t, .int .i64 z.p, .int .i64 n, .int .i64 f]) ∧
      PRep w' L (tradeM m tb ts ts h g 0 i 0 n (z.p * n) f { z with q := z.q - n }) ∧ OdAt w' xb { o with q := o.q - n } ∧ Kep (fun b => L.S m b ∨ b = xb) w w' ∧ Plain w' xb := by
  have zo := ok.od h g 0 z q.1 q.2.1 q.2.2 (List.mem_of_getElem? hz)
  have zp := zo.p
  have zq := zo.q
  obtain ⟨zp0, zp1⟩ := zp
  obtain ⟨zq0, zq1⟩ := zq
  obtain ⟨oq0, oq1⟩ := hoq
  have htb : tb < m.T := by have := zo.t; omega
  have zh := zo.h
  have zg := zo.g
  have h4 : h < 4 := by have := q.1; have := ok.H4; omega
  have g4 : g < 4 := by have := q.2.1; have := ok.G4; omega
  have n0 : 1 ≤ n := by rw [← hn]; omega
  have n1 : n ≤ 10000 := by rw [← hn]; omega
  have am := mul_le' (a := z.p) (b := n) (A := 100000) (B := 10000) (by omega) zp1 (by omega) n1
  obtain ⟨am0, am1⟩ := am
  have w1 : IntKind.i64.wrap (z.p * n) = z.p * n := by rw [IntKind.wrap_i64]; omega
  have HF := hide (fun W (k : Kep non w W) => fee_any W L m N (R.later k) ok h (z.p * n) q.1 am0 (by omega))
  have fb := fee_bd ok q.1 am0 (by omega)
  rw [hf] at HF fb
  have o2 := (hx 2 _ rfl).cell
  have o4 := (hx 4 _ rfl).cell
  have o6 := (hx 6 _ rfl).cell
  have z5 := (R.oc h g 0 i yb z q hi hz 5 _ rfl).cell
  have z6 := (R.oc h g 0 i yb z q hi hz 6 _ rfl).cell
  rw [eh] at o2
  rw [es] at o4
  have HN := hide hn
  have ET := hide et
  have EH := hide eh
  have EG := hide eg
  have EZ := hide ets
  have ZH := hide zh
  have ZG := hide zg
  have hrb := R.rblt ok.H1
  have hmx := mixed
  have lx : xb < w.heap.size := (hx 0 _ rfl).lt
  have ly : yb < w.heap.size := World.block_lt_of_cell? w _ z5
  have HS := hide (show ∀ k, TS w w.heap.size L xb o ((w.alloc (.cells #[.int .i64 0, .int .i64 0, .int .i64 0, .int .i64 0, .int .i64 0, .int .i64 0] 67)).drewN k) m from fun k => by
    have k0 : Kep non w ((w.alloc (.cells #[.int .i64 0, .int .i64 0, .int .i64 0, .int .i64 0, .int .i64 0, .int .i64 0] 67)).drewN k) := ((Kep.refl non w).alloc _).drewN k
    refine ⟨R.later k0, fun j v hv => (hx j v hv).kep k0 (fun f => f), ?_, hxS, fun e => by have := R.lt ok.T1 ok.G1 _ e; omega, by omega, k0.none, hxp.kep k0 (fun f => f)⟩
    show (w.heap.push _)[w.heap.size]? = _
    simp)
  have HK := hide (show ∀ k, Kep non w ((w.alloc (.cells #[.int .i64 0, .int .i64 0, .int .i64 0, .int .i64 0, .int .i64 0, .int .i64 0] 67)).drewN k) from fun k => ((Kep.refl non w).alloc _).drewN k)
  clear hn hf et eh eg es ets zh zg zo
  go_enter Tryz.func100, Tryz.ntmps100
  go_wp2
  go_quiet (fail)
  rw [HN.out]
  have S0 := HS.out nq
  have K0 := HK.out nq
  clear HS HK
  generalize hB : w.heap.size = B at *
  have HB := hide hB
  clear hB
  generalize (w.alloc (.cells #[.int .i64 0, .int .i64 0, .int .i64 0, .int .i64 0, .int .i64 0, .int .i64 0] 67)).drewN nq = W0 at *
  clear o2 o4 o6 z5 z6
  have o2 := (S0.c 2 _ rfl).cell
  rw [EH.out] at o2
  have z1 := (S0.R.oc h g 0 i yb z q hi hz 1 _ rfl).cell
  rw [EZ.out] at z1
  have z5 := (S0.R.oc h g 0 i yb z q hi hz 5 _ rfl).cell
  have c2 := S0.R.cA.cell
  obtain ⟨cm, cf⟩ := S0.R.mo tb htb
  go_wp2_with (go_at_call 123; refine (HF.out _ K0).mono ?_; rintro e W0 ⟨rfl, rfl⟩)
  have m1b := ok.mo tb htb
  have v1w : IntKind.i64.wrap (m.mo tb) = m.mo tb := by rw [IntKind.wrap_i64]; omega
  have htb' : (tb : Int) < (m.T : Int) := by omega
  go_region
  have S1 := (S0.mo tb htb (m.mo tb)).later ((Kep.refl non _).drew)
  clear o2 z1 z5 c2 cm cf S0 K0
  revert S1
  generalize (W0.setCell ⟨L.ab, tb * 17, none⟩ (.int .i64 (m.mo tb))).drew = W1
  intro S1
  have zr := S1.R.oc h g 0 i yb z q hi hz
  have z1 := (zr 1 _ rfl).cell
  have z2 := (zr 2 _ rfl).cell
  have z3 := (zr 3 _ rfl).cell
  rw [EZ.out] at z1
  rw [ZH.out] at z2
  rw [ZG.out] at z3
  clear zr
  have c2 : W1.cell? ⟨L.x, 2, none⟩ = some (.slice (some ⟨L.ab, 0, none⟩) m.T m.T) := S1.R.cA.cell
  have cm : W1.cell? ⟨L.ab, tb * 17 + 1 + h * 4 + g, none⟩ = some (.int .i64 (m.pc tb h g)) := (S1.R.pc tb h g htb h4 g4).cell
  have cf : W1.frozen? ⟨L.ab, tb * 17 + 1 + h * 4 + g, none⟩ = false := (S1.R.pc tb h g htb h4 g4).free
  have pb := ok.pc tb h g htb q.1 q.2.1
  have bN := ok.bN
  have v2w : IntKind.i64.wrap (m.pc tb h g + n) = m.pc tb h g + n := by rw [IntKind.wrap_i64]; omega
  have hh' : (h : Int) < 4 := by omega
  have hg' : (g : Int) < 4 := by omega
  go_wp2
  go_region
  have S2 := (S1.pc tb h g htb h4 g4 (m.pc tb h g + n)).later ((Kep.refl non _).drew)
  clear z1 z2 z3 c2 cm cf S1
  revert S2
  generalize (W1.setCell ⟨L.ab, tb * 17 + 1 + h * 4 + g, none⟩ (.int .i64 (m.pc tb h g + n))).drew = W2
  intro S2
  have o1 := (S2.c 1 _ rfl).cell
  rw [ET.out] at o1
  have c2 : W2.cell? ⟨L.x, 2, none⟩ = some (.slice (some ⟨L.ab, 0, none⟩) m.T m.T) := S2.R.cA.cell
  have e3 : (m.setMo tb (m.mo tb)).mo ts = m.mo ts := by simp [Mt.setMo, Ne.symm hne]
  have cm : W2.cell? ⟨L.ab, ts * 17, none⟩ = some (.int .i64 ((m.setMo tb (m.mo tb)).mo ts)) := (S2.R.mo ts hts).cell
  have cf : W2.frozen? ⟨L.ab, ts * 17, none⟩ = false := (S2.R.mo ts hts).free
  rw [e3] at cm
  have m3b := ok.mo ts hts
  have v3w : IntKind.i64.wrap (m.mo ts + z.p * n) = m.mo ts + z.p * n := by rw [IntKind.wrap_i64]; omega
  have hts' : (ts : Int) < (m.T : Int) := by omega
  have E3 := hide e3
  clear e3
  go_wp2
  go_region
  have S3 := (S2.mo ts hts (m.mo ts + z.p * n)).later ((Kep.refl non _).drew)
  clear o1 c2 cm cf S2
  revert S3
  generalize (W2.setCell ⟨L.ab, ts * 17, none⟩ (.int .i64 (m.mo ts + z.p * n))).drew = W3
  intro S3
  have o1 := (S3.c 1 _ rfl).cell
  rw [ET.out] at o1
  have c2 : W3.cell? ⟨L.x, 2, none⟩ = some (.slice (some ⟨L.ab, 0, none⟩) m.T m.T) := S3.R.cA.cell
  have e4 : (((m.setMo tb (m.mo tb)).setPc tb h g (m.pc tb h g + n)).setMo ts (m.mo ts + z.p * n)).mo ts = m.mo ts + z.p * n := by simp [Mt.setMo, Mt.setPc]
  have cm : W3.cell? ⟨L.ab, ts * 17, none⟩ = some (.int .i64 ((((m.setMo tb (m.mo tb)).setPc tb h g (m.pc tb h g + n)).setMo ts (m.mo ts + z.p * n)).mo ts)) := (S3.R.mo ts hts).cell
  have cf : W3.frozen? ⟨L.ab, ts * 17, none⟩ = false := (S3.R.mo ts hts).free
  rw [e4] at cm
  have E4 := hide e4
  clear e4
  have v4w : IntKind.i64.wrap (m.mo ts + z.p * n - f) = m.mo ts + z.p * n - f := by rw [IntKind.wrap_i64]; omega
  go_wp2
  go_region
  have S4 := (S3.mo ts hts (m.mo ts + z.p * n - f)).later ((Kep.refl non _).drew)
  clear o1 c2 cm cf S3
  revert S4
  generalize (W3.setCell ⟨L.ab, ts * 17, none⟩ (.int .i64 (m.mo ts + z.p * n - f))).drew = W4
  intro S4
  have c6 : W4.cell? ⟨L.x, 6, none⟩ = some (.int .i64 m.ho) := S4.R.cH.cell
  have f6 : W4.frozen? ⟨L.x, 6, none⟩ = false := S4.R.cH.free
  have hob := ok.ho
  have v5w : IntKind.i64.wrap (m.ho + f) = m.ho + f := by rw [IntKind.wrap_i64]; omega
  have o6 := (S4.c 6 _ rfl).cell
  have of6 := (S4.c 6 _ rfl).free
  have o0 := (S4.c 0 _ rfl).cell
  have v6w : IntKind.i64.wrap (o.q - n) = o.q - n := by rw [IntKind.wrap_i64]; omega
  have zr := S4.R.oc h g 0 i yb z q hi hz
  have z6 := (zr 6 _ rfl).cell
  have zf6 := (zr 6 _ rfl).free
  have z0 := (zr 0 _ rfl).cell
  have z1 := (zr 1 _ rfl).cell
  have z5 := (zr 5 _ rfl).cell
  have v7w : IntKind.i64.wrap (z.q - n) = z.q - n := by rw [IntKind.wrap_i64]; omega
  have hyS : L.S m yb := ⟨.ob h g 0 i, by simp only [PL.F, q, if_true]; exact hi⟩
  have n1' : L.x ≠ xb := fun e => hxS (e ▸ ⟨.x, rfl⟩)
  have n2' : L.x ≠ yb := R.ne (i := .x) (j := .ob h g 0 i) rfl (by simp only [PL.F, q, if_true]; exact hi) (by simp)
  have n3' : xb ≠ yb := fun e => hxS (e ▸ hyS)
  have HS7 := hide (((S4.ho (m.ho + f)).cq hxr hxb (o.q - n)).zq q hi hz (z.q - n))
  clear zr S4 hyS
  go_wp2
  have S7 := HS7.out
  clear HS7 c6 f6 o6 of6 o0 z6 zf6 z0 z1 z5
  revert S7
  generalize (((W4.setCell ⟨L.x, 6, none⟩ (.int .i64 (m.ho + f))).setCell ⟨xb, 6, none⟩ (.int .i64 (o.q - n))).setCell ⟨yb, 6, none⟩ (.int .i64 (z.q - n))) = W7
  intro S7
  have o0 := (S7.c 0 _ rfl).cell
  have hzl : i < (m.bk h g 0).length := (List.getElem?_eq_some_iff.1 hz).1
  have zr := S7.R.oc h g 0 i yb { z with q := z.q - n } q hi (by simp [Mt.setBk, Mt.setMo, Mt.setPc, hzl])
  have z0 := (zr 0 _ rfl).cell
  have z1 := (zr 1 _ rfl).cell
  have z5 := (zr 5 _ rfl).cell
  have br : ∀ j, j < 6 → W7.cell? ⟨B, j, none⟩ = some (.int .i64 0) ∧ W7.frozen? ⟨B, j, none⟩ = false := fun j hj => by
    simp only [World.cell?, World.frozen?, S7.r]
    rcases j with _ | _ | _ | _ | _ | _ | j
    · exact ⟨rfl, rfl⟩
    · exact ⟨rfl, rfl⟩
    · exact ⟨rfl, rfl⟩
    · exact ⟨rfl, rfl⟩
    · exact ⟨rfl, rfl⟩
    · exact ⟨rfl, rfl⟩
    · omega
  obtain ⟨b0, g0⟩ := br 0 (by decide)
  obtain ⟨b1, g1⟩ := br 1 (by decide)
  obtain ⟨b2, g2⟩ := br 2 (by decide)
  obtain ⟨b3, g3⟩ := br 3 (by decide)
  obtain ⟨b4, g4'⟩ := br 4 (by decide)
  obtain ⟨b5, g5⟩ := br 5 (by decide)
  have HS7 := hide S7
  clear S7 br zr
  go_region
  go_wp2
  have P := HS7.out.fin HB.out hrb (.int .i64 o.id) (.int .i64 z.id) (.int .i64 z.t) (.int .i64 z.p) (.int .i64 n) (.int .i64 f)
  rw [tradeM_sell m hne]
  refine bodyPost_ret (v := .agg #[.int .i64 o.id, .int .i64 z.id, .int .i64 z.t, .int .i64 z.p, .int .i64 n, .int .i64 f]) (by simp [results, Tryz.results100, go_sem, b0, b1, b2, b3, b4, b5]) rfl ⟨rfl, P.1, P.2.1, P.2.2.1, P.2.2.2⟩
end

/- The program's market: what the calls of a match do to its states. -/
section
open Go.RowKit Go.Sort

/-- a scope that begins with its label -/
theorem wp_scope_label {P : Program} {Q : Exit → Act → World → Prop} {a : Act} {w : World} {rest : Code} (l : Nat) (J : Act → World → Prop) (μ : Act → World → Nat) (h0 : J a w) (pass : ∀ a w, J a w → rest.wp P (Exit.jump l (fun a' w' => J a' w' ∧ μ a' w' < μ a w) Q) a w) : (Code.scope (.seq (.label l) rest)).wp P Q a w := by
  refine wp_scope_jumps l J μ (rest := .seq .skip rest) (by simp [findLabel]) ?_ ?_
  · refine wp_seq (wp_label ?_)
    refine wp_mono (pass a w h0) (fun e a w h => ?_)
    cases e with
    | goto l' => exact ⟨h.1, h.2.1⟩
    | normal => exact h
    | exit _ => exact h
    | ret => exact h
    | panic _ => exact h
    | outgrown => exact h
  · intro a w hJ
    refine wp_seq (wp_skip ?_)
    exact pass a w hJ

def Td.agg (t : Td) : Value := .agg #[.int .i64 t.tk, .int .i64 t.mr, .int .i64 t.wi, .int .i64 t.p, .int .i64 t.q, .int .i64 t.f]

theorem first_q0 {W : World} {L : PL} {m : Mt} (R : PRep W L m) {h g s : Nat} (q : at3 m h g s) (hb : m.bk h g s = []) :
    Calls Tryz.prog 98 #[.pointer (some ⟨L.qb h g s, 0, none⟩)] W fun e w' => e = .returned (.tuple #[.pointer none, .bool false]) ∧ w' = W := by
  obtain ⟨a, c, e⟩ := R.qvform q
  have h1 := (R.q1 h g s q).cell
  rw [e, R.ln h g s q, hb] at h1
  exact first_none _ c W a h1

theorem first_q1 {W : World} {L : PL} {m : Mt} (R : PRep W L m) {h g s : Nat} (q : at3 m h g s) {y : Nat} {ys : List Nat} (hob : L.ob h g s = y :: ys) :
    Calls Tryz.prog 98 #[.pointer (some ⟨L.qb h g s, 0, none⟩)] W fun e w' => e = .returned (.tuple #[.pointer (some ⟨y, 0, none⟩), .bool true]) ∧ w' = W := by
  have hr := R.qr h g s q
  have h1 := (R.q1 h g s q).cell
  have hl : (L.ob h g s).length = ys.length + 1 := by rw [hob]; rfl
  rcases hr.2 with ⟨_, e2⟩ | ⟨b, cap, cur, e, _⟩
  · omega
  · rw [e] at hr h1
    refine first_some _ b _ cap y W (by omega) h1 ?_
    have := hr.cellAt 0 (by omega)
    rw [this, hob]
    rfl

theorem PRep.head {W : World} {L : PL} {m : Mt} (R : PRep W L m) {h g s : Nat} (q : at3 m h g s) {z : Od} {r : List Od} (hb : m.bk h g s = z :: r) : ∃ y ys, L.ob h g s = y :: ys := by
  have hl := R.ln h g s q
  rw [hb] at hl
  cases e : L.ob h g s with
  | nil => rw [e] at hl; simp at hl
  | cons y ys => exact ⟨y, ys, rfl⟩

theorem oneM_dims (m : Mt) (h g s : Nat) (o z : Od) (n : Int) : (oneM m h g s o z n).T = m.T ∧ (oneM m h g s o z n).G = m.G ∧ (oneM m h g s o z n).H = m.H := by
  unfold oneM
  split <;> exact ⟨rfl, rfl, rfl⟩

theorem releaseM_dims (m : Mt) (t h g s : Nat) (o : Od) : (releaseM m t h g s o).T = m.T ∧ (releaseM m t h g s o).G = m.G ∧ (releaseM m t h g s o).H = m.H := by
  unfold releaseM
  split <;> exact ⟨rfl, rfl, rfl⟩

theorem trade_ms {w0 : World} {L0 : PL} {m0 : Mt} {xb : Nat} {L : PL} {m : Mt} {o : Od} {tv : Value} {ts : List Td} {W : World} (S : MS w0 L0 m0 xb L m o tv ts W) {N : Int} (ok : m.Ok N) {h g s : Nat} (q : at3 m h g s) {z : Od} {r : List Od} (hb : m.bk h g s = z :: r) {y : Nat} {ys : List Nat} (hob : L.ob h g s = y :: ys)
    (eh : o.h = h) (eg : o.g = g) (es : o.s = otherS s) (ht : 0 ≤ o.t ∧ o.t < m.T) (hp : 1 ≤ o.p ∧ o.p ≤ 100000) (hq : 1 ≤ o.q ∧ o.q ≤ 10000) (hne : z.t ≠ o.t) :
    Calls Tryz.prog 100 #[.pointer (some ⟨L.x, 0, none⟩), .pointer (some ⟨xb, 0, none⟩), .pointer (some ⟨y, 0, none⟩)] W fun e w' => e = .returned (oneT m h o z (min o.q z.q)).agg ∧ MS w0 L0 m0 xb L (oneM m h g s o z (min o.q z.q)) { o with q := o.q - min o.q z.q } tv ts w' := by
  have hi : (L.ob h g s)[0]? = some y := by rw [hob]; rfl
  have hz : (m.bk h g s)[0]? = some z := by rw [hb]; rfl
  have zo := ok.od h g s z q.1 q.2.1 q.2.2 (by rw [hb]; exact List.mem_cons_self)
  have zt := zo.t
  obtain ⟨t, et⟩ : ∃ t : Nat, o.t = t := ⟨o.t.toNat, by omega⟩
  obtain ⟨u, eu⟩ : ∃ u : Nat, z.t = u := ⟨z.t.toNat, by omega⟩
  have e1 : o.t.toNat = t := by omega
  have e2 : z.t.toNat = u := by omega
  by_cases hs : s = 1
  · subst hs
    refine (trade_buy W L m N S.R ok (tb := t) (ts := u) o z q hi hz S.c S.pl S.nx S.xr S.xq et eh eg (by simpa [otherS] using es) (by omega) eu (by omega) hp hq _ rfl _ rfl).mono ?_
    rintro e w' ⟨rfl, h1, h2, h3, h4⟩
    refine ⟨rfl, S.same h3 ?_ h2 h4 (oneM_dims m h g 1 o z _)⟩
    rw [oneM, if_pos rfl, e1, e2]
    exact h1
  · have s0 : s = 0 := by have := q.2.2; omega
    subst s0
    refine (trade_sell W L m N S.R ok (ts := t) (tb := u) o z q hi hz S.c S.pl S.nx S.xr S.xq et eh eg (by simpa [otherS] using es) (by omega) eu (by omega) hq _ rfl _ rfl).mono ?_
    rintro e w' ⟨rfl, h1, h2, h3, h4⟩
    refine ⟨rfl, S.same h3 ?_ h2 h4 (oneM_dims m h g 0 o z _)⟩
    rw [oneM, if_neg (by decide), e1, e2]
    exact h1

theorem note_ms {w0 : World} {L0 : PL} {m0 : Mt} {xb : Nat} {L : PL} {m : Mt} {o : Od} {tv : Value} {ts : List Td} {W : World} (S : MS w0 L0 m0 xb L m o tv ts W) {h g : Nat} (hh : h < m.H) (hg : g < m.G) (hpi : 0 ≤ m.pi h g ∧ m.pi h g ≤ 1000000000000) (ham : 0 ≤ m.am h g ∧ m.am h g ≤ 1000000000000000000) (t : Td) (hp : 0 ≤ t.p ∧ t.p ≤ 100000) (hq : 0 ≤ t.q ∧ t.q ≤ 10000) :
    Calls Tryz.prog 101 #[.pointer (some ⟨L.gb h, g * 5, none⟩), t.agg] W fun e w' => e = .returned (.tuple #[]) ∧ MS w0 L0 m0 xb L (noteM m h g t.p t.q) o tv ts w' := by
  refine (note_any W (L.gb h) (g * 5) (m.la h g) (m.pi h g) (m.am h g) t.tk t.mr t.wi t.p t.q t.f (S.R.la h g hh hg) (S.R.pi h g hh hg) (S.R.am h g hh hg) hpi ham hp hq).mono ?_
  rintro e w' ⟨rfl, rfl⟩
  refine ⟨rfl, ?_⟩
  have hS : L.S m (L.gb h) := ⟨.gb h, by simp [PL.F, hh]⟩
  have hne : xb ≠ L.gb h := fun f => S.nx (f ▸ hS)
  have k : Kep (fun b => b = L.gb h) W (((W.setCell ⟨L.gb h, g * 5 + 2, none⟩ (.int .i64 t.p)).setCell ⟨L.gb h, g * 5 + 3, none⟩ (.int .i64 (m.pi h g + t.q))).setCell ⟨L.gb h, g * 5 + 4, none⟩ (.int .i64 (m.am h g + t.p * t.q))) :=
    (((Kep.refl (fun b => b = L.gb h) W).setCell (p := ⟨L.gb h, g * 5 + 2, none⟩) (.inl rfl) _).setCell (p := ⟨L.gb h, g * 5 + 3, none⟩) (.inl rfl) _).setCell (p := ⟨L.gb h, g * 5 + 4, none⟩) (.inl rfl) _
  have S2 := S.same (k.mono (S' := fun b => L.S m b ∨ b = xb) (fun b hb => .inl (.inl (hb ▸ hS)))) (S.R.note hh hg t.p t.q) (fun j v hv => (S.c j v hv).kep k hne) (S.pl.kep k hne) ⟨rfl, rfl, rfl⟩
  exact S2.later (((Kep.refl non _).alloc _).drewN 2)

theorem remove_ms {w0 : World} {L0 : PL} {m0 : Mt} {xb : Nat} {L : PL} {m : Mt} {o : Od} {tv : Value} {ts : List Td} {W : World} (S : MS w0 L0 m0 xb L m o tv ts W) (T1 : 1 ≤ m.T) (G1 : 1 ≤ m.G) (H1 : 1 ≤ m.H) {h g s : Nat} (q : at3 m h g s) (h60 : (m.bk h g s).length ≤ 1000000) {z : Od} {r : List Od} (hb : m.bk h g s = z :: r) {y : Nat} {ys : List Nat} (hob : L.ob h g s = y :: ys) :
    Calls Tryz.prog 102 #[.pointer (some ⟨L.qb h g s, 0, none⟩), .pointer (some ⟨y, 0, none⟩)] W fun e w' => e = .returned (.tuple #[]) ∧ ∃ v, MS w0 L0 m0 xb (L.setQ h g s v ys) (m.setBk h g s r) o tv ts w' := by
  have hi : (L.ob h g s)[0]? = some y := by rw [hob]; rfl
  refine (remove_q0 W L m S.R T1 G1 H1 q hi (by rw [S.R.ln h g s q]; exact h60)).mono ?_
  rintro e w' ⟨rfl, P⟩
  obtain ⟨v, R', hv⟩ := P.rep
  rw [hob, hb] at R'
  refine ⟨rfl, v, S.turn q (P.kp.mono (S' := L.S m) (fun b hb => .inl ?_)) R' ⟨rfl, rfl, rfl⟩ hv (fun i b hib => ⟨i + 1, by rw [hob]; simpa using hib⟩)⟩
  rcases hb with f | f
  · exact ⟨.qb h g s, by simp [PL.F, q, f]⟩
  · exact ⟨.qv h g s, by simp only [PL.F, q, if_true]; exact f⟩

theorem takeBack_ms {w0 : World} {L0 : PL} {m0 : Mt} {xb : Nat} {L : PL} {m : Mt} {o : Od} {tv : Value} {ts : List Td} {W : World} (S : MS w0 L0 m0 xb L m o tv ts W) {N : Int} (ok : m.Ok N) {h g s : Nat} (q : at3 m h g s) (h60 : (m.bk h g s).length ≤ 1000000) {z : Od} {r : List Od} (hb : m.bk h g s = z :: r) {y : Nat} {ys : List Nat} (hob : L.ob h g s = y :: ys) :
    Calls Tryz.prog 65 #[.pointer (some ⟨L.x, 0, none⟩), .pointer (some ⟨y, 0, none⟩)] W fun e w' => e = .returned (.tuple #[]) ∧ ∃ v, MS w0 L0 m0 xb (L.setQ h g s v ys) (releaseM (m.setBk h g s r) z.t.toNat h g s z) o tv ts w' := by
  have hi : (L.ob h g s)[0]? = some y := by rw [hob]; rfl
  have hz : (m.bk h g s)[0]? = some z := by rw [hb]; rfl
  have zt := (ok.od h g s z q.1 q.2.1 q.2.2 (by rw [hb]; exact List.mem_cons_self)).t
  refine (takeBack_any W L m N S.R ok ok.bN (t := z.t.toNat) z q hi hz (by rw [S.R.ln h g s q]; exact h60) (by omega)).mono ?_
  rintro e w' ⟨rfl, P⟩
  obtain ⟨v, R', hv⟩ := P.rep
  rw [hob, hb] at R'
  refine ⟨rfl, v, S.turn q (P.kp.mono (S' := L.S m) (fun b hb => .inl ?_)) R' (releaseM_dims _ _ _ _ _ _) hv (fun i b hib => ⟨i + 1, by rw [hob]; simpa using hib⟩)⟩
  rcases hb with f | f | f
  · exact ⟨.ab, by rw [f]; rfl⟩
  · exact ⟨.qb h g s, by simp [PL.F, q, f]⟩
  · exact ⟨.qv h g s, by simp only [PL.F, q, if_true]; exact f⟩
end

/- The program's market: how many pieces an order meets. -/
section
open Go.RowKit Go.Sort

attribute [local go_sem] Oper.semAt_some

theorem other_any (s : Nat) (hs : s < 2) (w : World) : Calls Tryz.prog 97 #[.int .i64 s] w fun e w' => e = .returned (.int .i64 (otherS s)) ∧ w' = w := by
  rcases s with _ | _ | s
  · exact other_buy w
  · exact other_sell w
  · omega

/-- pieces met, under way -/
structure MetSt (w : World) (o : Od) (k : Int) (wr : World) : Prop where
  kp : Below w.heap.size w wr
  ob : OdAt wr w.heap.size o
  sm : Own wr ⟨w.heap.size + 1, 0, none⟩ (.int .i64 k)

theorem MetSt.later {w : World} {o : Od} {k : Int} {wr wr' : World} (s : MetSt w o k wr) (q : Kep non wr wr') : MetSt w o k wr' :=
  ⟨s.kp.trans (q.bel.mono s.kp.size), fun j v hv => (s.ob j v hv).kep q (fun q => q), s.sm.kep q (fun q => q)⟩

theorem MetSt.setK {w : World} {o : Od} {k : Int} {wr : World} (s : MetSt w o k wr) (d : Int) : MetSt w o d (wr.setCell ⟨w.heap.size + 1, 0, none⟩ (.int .i64 d)) :=
  ⟨s.kp.setCell (p := ⟨w.heap.size + 1, 0, none⟩) (by simp) _, fun j v hv => (s.ob j v hv).set_other (by intro q; injection q with q _ _; omega) rfl rfl _, s.sm.set rfl _⟩

theorem met_own {β : Type} (B : Nat) (w : World) (o : Od) (f : β → Int) (hB : w.heap.size ≤ B) : OwnFrom B (fun (s : β) W => MetSt w o (f s) W) := by
  intro s A A' row hs hg hr
  have hr2 : ∀ r, row = some r → ∃ o : Obj, A.heap[r]? = some o ∧ o.isCells = false := fun r e => (hr r e).2
  exact ⟨ownFrom_below (β := β) (Nat.le_refl _) hB s A A' row hs.kp hg hr, fun j v hv => own_turn (hs.ob j v hv) hg hr2, own_turn hs.sm hg hr2⟩

theorem met_pre (w : World) (o : Od) :
    let W0 := (w.alloc (.cells #[.int .i64 o.id, .int .i64 o.t, .int .i64 o.h, .int .i64 o.g, .int .i64 o.s, .int .i64 o.p, .int .i64 o.q, .int .i64 o.w] 40)).alloc (.cells #[.int .i64 0] 3)
    W0.heap.size = w.heap.size + 2 ∧ MetSt w o 0 W0 := by
  intro W0
  have h1 := heap_alloc_new w (.cells #[.int .i64 o.id, .int .i64 o.t, .int .i64 o.h, .int .i64 o.g, .int .i64 o.s, .int .i64 o.p, .int .i64 o.q, .int .i64 o.w] 40)
  have h2 := heap_alloc_new (w.alloc (.cells #[.int .i64 o.id, .int .i64 o.t, .int .i64 o.h, .int .i64 o.g, .int .i64 o.s, .int .i64 o.p, .int .i64 o.q, .int .i64 o.w] 40)) (.cells #[.int .i64 0] 3)
  rw [World.size_alloc] at h2
  refine ⟨by simp [W0], ((Below.refl _ w).alloc (Nat.le_refl _) _).alloc (by simp) _, fun j v hv => ?_, ?_⟩
  · have h0 : Own (w.alloc (.cells #[.int .i64 o.id, .int .i64 o.t, .int .i64 o.h, .int .i64 o.g, .int .i64 o.s, .int .i64 o.p, .int .i64 o.q, .int .i64 o.w] 40)) ⟨w.heap.size, j, none⟩ v := by
      refine ⟨?_, frozen_of_row _ _ j _ _ h1⟩
      rw [cell_of_row _ _ j _ _ _ h1]
      simpa [Od.cells] using hv
    exact h0.kep ((Kep.refl non _).alloc _) (fun q => q)
  · exact ⟨cell_of_row _ _ 0 _ _ _ h2, frozen_of_row _ _ 0 _ _ h2⟩

theorem ko_drewN (W : World) (n : Nat) : KeepsOthers W (W.drewN n) := ⟨Nat.le_refl _, fun _ _ h _ => h⟩

/-- ways that come to one end, but for what was drawn -/
theorem meetsK {X : Act → World → Prop} {G : Prop} {A : Act} {W : World} (ways : (∀ k, X A (W.drewN k)) → G) (rest : ∀ k, X A (W.drewN k)) : G := ways rest

theorem metL_append (o : Od) (a b : List Od) : metL o (a ++ b) = metL o a + metL o b := by
  induction a with
  | nil => simp [metL]
  | cons x a ih => simp only [List.cons_append, metL, ih]; omega

theorem metL_bd (o : Od) : ∀ l : List Od, (∀ z ∈ l, 1 ≤ z.q ∧ z.q ≤ 10000) → 0 ≤ metL o l ∧ metL o l ≤ 10000 * (l.length : Int)
  | [], _ => by simp [metL]
  | z :: r, h => by
    have ih := metL_bd o r (fun x hx => h x (List.mem_cons_of_mem _ hx))
    have hq := h z List.mem_cons_self
    simp only [metL, List.length_cons]
    split <;> omega

theorem met_end {w wr : World} {D : Nat} {o : Od} {k K : Int} {tm : Array Value} (e1 : k = K) (hzD : w.heap.size + 2 ≤ D) (hD : wr.heap[D]? = some (.deferred (some []))) (S : MetSt w o k wr) (ht : tm[4]? = some (.int .i64 k) := by rfl) :
    bodyPostM Fence.wide 3 Tryz.prog Tryz.f95 (fun e w' => e = .returned (.int .i64 K) ∧ Below w.heap.size w w') .ret { tmps := tm, defers := [{ target := .collected D, args := #[] }] } wr := by
  subst e1
  refine ⟨by simp, .inl ⟨_, _, rfl, run_takeDeferred hD, ?_⟩⟩
  refine ⟨.int .i64 k, ?_, rfl, S.kp.trans (belowK_b (w := w) (Nat.le_refl _) wr D _ _ (by omega) hD rfl rfl)⟩
  simp [results, Tryz.results95, go_sem, ht]

set_option maxRecDepth 100000 in
set_option maxHeartbeats 4000000 in
theorem piecesMet_any (w : World) (L : PL) (m : Mt) (N : Int) (R : PRep w L m) (ok : m.Ok N) (o : Od) (h g s : Nat) (eh : o.h = h) (eg : o.g = g) (es : o.s = s) (hh : h < m.H) (hg : g < m.G) (hs : s < 2) :
    Calls Tryz.prog 95 #[.pointer (some ⟨L.x, 0, none⟩), o.agg] w fun e w' => e = .returned (.int .i64 (m.met o)) ∧ Below w.heap.size w w' := by
  have q1 : at3 m h g (otherS s) := ⟨hh, hg, by unfold otherS; split <;> omega⟩
  have HM := hide (show metL o (m.bk h g (otherS s)) = m.met o by unfold Mt.met; rw [eh, eg, es]; rfl)
  have HR := hide R
  have HO := hide ok
  have HP := hide (met_pre w o)
  have HB := hide (show ∀ W, MetSt w o 0 W → Calls Tryz.prog 96 #[.pointer (some ⟨L.x, 0, none⟩), .pointer (some ⟨w.heap.size, 0, none⟩)] W fun e w' => e = .returned (.pointer (some ⟨L.gb h, g * 5, none⟩)) ∧ ∃ k, w' = W.drewN k from fun W S =>
    bookOf_any W L m (R.bel S.kp) _ h g o S.ob eh eg hh hg)
  obtain ⟨su, hsu⟩ : ∃ su, su = otherS s := ⟨_, rfl⟩
  have HT := hide (show ∀ W, Calls Tryz.prog 97 #[.int .i64 s] W fun e w' => e = .returned (.int .i64 su) ∧ w' = W from fun W => by rw [hsu]; exact other_any s hs W)
  rw [← hsu] at q1 HM
  obtain ⟨qa, qc, hqv⟩ := R.qvform q1
  have HA := hide (show ∀ W, MetSt w o 0 W → Calls Tryz.prog 118 #[.pointer (some ⟨L.qb h g su, 0, none⟩)] W fun e w' => e = .returned (.func (.func 143) #[] #[.pointer (some ⟨W.heap.size, 0, none⟩)]) ∧ w' = W.alloc (.cells #[.slice qa (L.ob h g su).length qc] 142) from fun W S =>
    all_any _ _ _ _ _ (by have := ((R.bel S.kp).q1 h g su q1).cell; rwa [hqv] at this))
  have HC := hide (show ∀ W, MetSt w o 0 W → W.cell? ⟨w.heap.size, 4, none⟩ = some (.int .i64 s) ∧ W.cell? ⟨L.gb h, g * 5 + su, none⟩ = some (.pointer (some ⟨L.qb h g su, 0, none⟩)) from fun W S =>
    ⟨by have := (S.ob 4 _ rfl).cell; rwa [es] at this, ((R.bel S.kp).sd h g su q1).cell⟩)
  have hs2 : (su : Int) < 2 := by have := q1.2.2; omega
  have hmx := mixed
  unfold Od.agg
  clear R ok hsu
  refine (callsIn_wide (n := 3)).1 ?_
  refine callsIn_of_wp_marks Tryz.func95 rfl trivial ?_ rfl
  simp only [Tryz.ntmps95, List.size_toArray, List.length_cons, List.length_nil, Nat.reduceAdd, Nat.reduceSub, Array.replicate_succ, Array.replicate_zero, List.push_toArray, List.append_toArray, List.nil_append, List.cons_append]
  refine wpIn_wide.2 ?_
  have EE := hide (And.intro eh (And.intro eg es))
  clear eh eg es
  go_wp2
  generalize (w.alloc (.cells #[.int .i64 o.id, .int .i64 o.t, .int .i64 o.h, .int .i64 o.g, .int .i64 o.s, .int .i64 o.p, .int .i64 o.q, .int .i64 o.w] 40)).alloc (.cells #[.int .i64 0] 3) = W0 at *
  have hz := HP.out.1
  have HS0 := hide (show ∀ W, Kep non W0 W → MetSt w o 0 W from fun W k => HP.out.2.later k)
  obtain ⟨c4, cs⟩ := HC.out W0 (HS0.out W0 (Kep.refl _ _))
  go_cut [16] from 7 to 15 (fun s16 wx => s16 = .func (.func 143) #[] #[.pointer (some ⟨w.heap.size + 2, 0, none⟩)] ∧ MetSt w o 0 wx ∧ wx.heap[w.heap.size + 2]? = some (.cells #[.slice qa (L.ob h g su).length qc] 142 (0, 0)))
  case first =>
    go_region_held3 (fun w' => w'.cell? ⟨w.heap.size, 4, none⟩ = some (.int .i64 s) ∧ w'.cell? ⟨L.gb h, g * 5 + su, none⟩ = some (.pointer (some ⟨L.qb h g su, 0, none⟩)))
      ((refine HC.out _ (HS0.out _ ?_); (repeat (first | apply Kep.drew | apply Kep.drewN | apply Kep.alloc)); exact Kep.refl _ _))
      (first | (go_at_call 96; refine (HB.out _ (HS0.out _ ?_)).mono ?_; ((repeat (first | apply Kep.drew | apply Kep.drewN | apply Kep.alloc)); exact Kep.refl _ _); rintro e w' ⟨rfl, k, rfl⟩) | (go_at_call 97; refine (HT.out _).mono ?_; rintro e w' ⟨rfl, rfl⟩) | (go_at_call 118; refine (HA.out _ (HS0.out _ ?_)).mono ?_; ((repeat (first | apply Kep.drew | apply Kep.drewN | apply Kep.alloc)); exact Kep.refl _ _); rintro e w' ⟨rfl, rfl⟩))
    all_goals go_step
    all_goals go_step
    all_goals go_meet
    all_goals refine ⟨rfl, HS0.out _ ?_, ?_⟩
    all_goals first
      | ((repeat (first | apply Kep.drew | apply Kep.drewN | apply Kep.alloc)); exact Kep.refl _ _)
      | (rw [← hz]; exact heap_alloc_new _ _)
  case rest =>
    obtain ⟨rfl, S0, hbx⟩ := hcut
    clear HS0 HP hz HC HB HT HA c4 cs
    obtain ⟨zs, hz1, hz2⟩ := HR.out.seq HO.out q1
    have hp : Ptrs w.heap.size wc (.slice qa (L.ob h g su).length qc) (zs.map fun z => z.1.1) := by
      have h0 := (HR.out.ptrs q1).below S0.kp
      rw [hqv] at h0
      rw [hz1]
      exact h0
    have hlen : zs.length = (L.ob h g su).length := by rw [← hz1, List.length_map]
    have HZ2 := hide hz2
    clear hz1 hz2
    have hzc := S0.kp.size
    have lwc : w.heap.size + 2 < wc.heap.size := (Array.getElem?_eq_some_iff.1 hbx).1
    have hl60 : zs.length ≤ 60 := by
      have h1 := HO.out.a60
      have h2 := HR.out.len_all
      have h3 := came_len (L := L) (m := m) (s := 2) hh hg
      have h4 : (L.ob h g su).length ≤ (L.ob h g 0).length + (L.ob h g 1).length := by
        rcases su with _ | _ | su
        · omega
        · simp only [Nat.zero_add]; omega
        · have := q1.2.2; omega
      simp only [cameTo, two, List.length_append] at h3
      simp at h3
      omega
    have hcb : wc.cell? ⟨w.heap.size + 2, 0, none⟩ = some (.slice qa (L.ob h g su).length qc) := by simp [World.cell?, hbx]
    clear hbx
    go_wp2
    refine (wpIn_wide (n := 3)).1 ?_
    refine wpIn_rangeFunc_ownG (F := Fence.wide) (n := 3) rfl (by omega) (gf := 143) (lb := #[.pointer (some ⟨w.heap.size + 2, 0, none⟩)]) rfl trivial (enters_of Tryz.func143 (by kernel_rfl) rfl)
      (values_stops (fun z : { p : Nat × Od // Good w p.1 p.2 } => z.1.1) Fence.wide 2 trivial rfl (by omega) (w.heap.size + 2) w.heap.size (.slice qa (L.ob h g su).length qc) zs (by omega) _ lwc (by omega) hcb hp) belowK_t (belowK_b (by omega)) (Below.refl _ _) (fun _ => rfl)
      (fun pre W => MetSt w o (metL o (pre.map fun z => z.1.2)) W)
      (fun _ _ _ => False)
      (met_own _ w o _ (by omega))
      (fun _ _ _ _ _ hs _ _ => hs)
      S0
      (fun x => { tmps := #[.pointer (some ⟨L.x, 0, none⟩), .agg #[.int .i64 o.id, .int .i64 o.t, .int .i64 o.h, .int .i64 o.g, .int .i64 o.s, .int .i64 o.p, .int .i64 o.q, .int .i64 o.w], undef, .pointer (some ⟨w.heap.size, 0, none⟩), .int .i64 0, .pointer (some ⟨w.heap.size + 1, 0, none⟩), .pointer (some ⟨x.1.1, 0, none⟩), u7, u8, u9, u10, u11, u12, u13, u14, u15, .func (.func 143) #[] #[.pointer (some ⟨w.heap.size + 2, 0, none⟩)], .pointer (some ⟨x.1.1, 0, none⟩), undef, undef, undef, undef, undef, undef, undef, undef, undef, undef, undef, undef, undef, undef, undef, undef, undef, undef], defers := [] })
      ?assign ?body ?done ?stop
    case assign =>
      intro l x W K hK
      gi_wp2
      exact hK
    case body =>
      rintro l pre x W S hlt1
      have hkb : 0 ≤ metL o (pre.map fun z => z.1.2) ∧ metL o (pre.map fun z => z.1.2) ≤ 600000 := by
        have h1 := metL_bd o (pre.map fun z => z.1.2) (fun o ho => by obtain ⟨z, _, rfl⟩ := List.mem_map.1 ho; exact z.2.2.2.2)
        have h2 : ((pre.map fun z => z.1.2).length : Int) ≤ 60 := by rw [List.length_map]; omega
        omega
      have hks : Hid (metL o ((pre ++ [x]).map fun z => z.1.2) = metL o (pre.map fun z => z.1.2) + if x.1.2.t ≠ o.t ∧ pfits o x.1.2 = true then x.1.2.q else 0) := hide (by rw [List.map_append, metL_append]; simp [metL])
      have HT := hide S
      have hx : OdAt W x.1.1 x.1.2 := fun j v hv => ((x.2.1 j v hv).kep (Kep.of_below (S := non) S.kp) (fun q => q))
      have HF := hide (show ∀ k, CallsIn (Fence.wide.inRound l) (3 - 1 - 1 - 1) Tryz.prog 99 #[.pointer (some ⟨w.heap.size, 0, none⟩), .pointer (some ⟨x.1.1, 0, none⟩)] (W.drewN k) fun e w' => e = .returned (.bool (pfits o x.1.2)) ∧ ∃ n, w' = (W.drewN k).drewN n from fun k =>
        CallsIn.inRound l ((callsIn_wide (n := 3 - 1 - 1 - 1)).2 (pricesFit_any (W.drewN k) _ _ o x.1.2 (fun j v hv => (S.ob j v hv).kep ((Kep.refl non W).drewN k) (fun f => f)) (fun j v hv => (hx j v hv).kep ((Kep.refl non W).drewN k) (fun f => f)))))
      have o1 := (hx 1 _ rfl).cell
      have o6 := (hx 6 _ rfl).cell
      have bq := x.2.2.2.2
      have t1 := (S.ob 1 _ rfl).cell
      have k0 := S.sm.cell
      have k1 := S.sm.free
      have S0le : w.heap.size ≤ W.heap.size := S.kp.size
      have hfn : Fence.wide.fn 99 = True := eq_true trivial
      clear S hx
      generalize metL o (pre.map fun z => z.1.2) = K0 at *
      generalize x.1.1 = b at *
      generalize x.1.2 = z at *
      by_cases e1 : z.t = o.t
      · have hK : Hid (metL o ((pre ++ [x]).map fun z => z.1.2) = K0) := hide (by rw [hks.out, if_neg (fun f => f.1 e1), Int.add_zero])
        have e2 : (z.t == o.t) = true := beq_iff_eq.2 e1
        clear hks
        gi_wp2
        apply meets
        case ways =>
          intro hX
          gi_region_with_o (fail)
          all_goals exact hX
        gi_wp2
        refine ⟨(KeepsOthers.drew _).from _, (Below.refl w.heap.size W).drew, ?_⟩
        show MetSt w o (metL o ((pre ++ [x]).map fun z => z.1.2)) _
        rw [hK.out]
        exact HT.out.later ((Kep.refl _ _).drew)
      · have e2 : (z.t == o.t) = false := beq_eq_false_iff_ne.2 e1
        cases hpf : pfits o z with
        | false =>
          have hK : Hid (metL o ((pre ++ [x]).map fun z => z.1.2) = K0) := hide (by rw [hks.out, if_neg (fun f => by rw [hpf] at f; cases f.2), Int.add_zero])
          rw [hpf] at HF
          clear hks hpf
          gi_wp2
          apply meetsK (W := W)
          case ways =>
            intro hX
            gi_region_with_o (gi_at_call 99; refine (HF.out 1).mono ?_; rintro e w' ⟨rfl, k, rfl⟩)
            all_goals exact hX _
          intro k
          gi_wp2
          refine ⟨(ko_drewN W k).from _, ((Kep.refl non W).drewN k).below (S := non) S0le (fun _ f => f.elim), ?_⟩
          show MetSt w o (metL o ((pre ++ [x]).map fun z => z.1.2)) _
          rw [hK.out]
          exact HT.out.later ((Kep.refl _ _).drewN k)
        | true =>
          have hK : Hid (metL o ((pre ++ [x]).map fun z => z.1.2) = K0 + z.q) := hide (by rw [hks.out, if_pos ⟨e1, hpf⟩])
          rw [hpf] at HF
          clear hks hpf
          gi_wp2
          apply meetsK (W := W)
          case ways =>
            intro hX
            gi_region_with_o (gi_at_call 99; refine (HF.out 1).mono ?_; rintro e w' ⟨rfl, k, rfl⟩)
            all_goals exact hX _
          intro k
          have kk : Kep non W (W.drewN k) := (Kep.refl _ _).drewN k
          have o6' := kk.cell o6 (fun f => f)
          have S2 := HT.out.later kk
          have k0' := S2.sm.cell
          have k1' := S2.sm.free
          have KO := hide (ko_drewN W k)
          have KB := hide (kk.below (B := w.heap.size) S0le (fun _ f => f.elim))
          clear HF o6 o1 t1 k0 k1 HT kk
          generalize W.drewN k = W2 at *
          have HT := hide S2
          clear S2
          gi_wp2
          apply meets
          case ways =>
            intro hX
            gi_region_o
            all_goals exact hX
          gi_wp2
          have w1 : IntKind.i64.wrap (K0 + z.q) = K0 + z.q := IntWalk.i64_in _ (by omega)
          rw [w1]
          refine ⟨((KO.out.trans (KeepsOthers.setCell _ _ _)).trans (KeepsOthers.drew _)).from _, KB.out.trans (((Below.refl w.heap.size W2).setCell (p := ⟨w.heap.size + 1, 0, none⟩) (by simp) _).drew), ?_⟩
          show MetSt w o (metL o ((pre ++ [x]).map fun z => z.1.2)) _
          rw [hK.out]
          exact (HT.out.setK _).later ((Kep.refl _ _).drew)
    case done =>
      rintro D ys W hD rfl S hK
      have HZ := hide (show metL o (ys.map fun z => z.1.2) = m.met o by rw [HZ2.out]; exact HM.out)
      obtain ⟨kk, hkk⟩ : ∃ kk, kk = metL o (ys.map fun z => z.1.2) := ⟨_, rfl⟩
      rw [← hkk] at S HZ
      have HS := hide S
      have HD := hide hK
      have c0 := S.sm.cell
      clear S hK hkk
      go_wp2
      exact met_end HZ.out (by omega) HD.out HS.out
    case stop =>
      rintro D c pre W _ _ h _
      exact h.elim
end

end Go.Proofs.YtcfoobhihhndjaaGreat
