/- The statements' desk: a market that is opened, whole. -/
import Derived.Test.YtcfoobhihhndjaaB32
namespace Go.Proofs.Ytcfoobhihhndjaa

section
open Go.RowKit Go.Sort

theorem openR_nil {rs : List Int} (h : picks (rs.take 3) = []) : openR rs = [30] := by rw [openR, if_pos h]
theorem openR_cons {rs : List Int} (h : picks (rs.take 3) ≠ []) : openR rs = picks (rs.take 3) := by rw [openR, if_neg h]

theorem Desk.later {w : World} {rs : List Int} {x : Nat} {mon p0 p1 : Int} {m : Mt} {W W' : World} (D : Desk w rs x mon p0 p1 m W) (k : Kep non W W') : Desk w rs x mon p0 p1 m W' := by
  obtain ⟨L, rv, pb, e, D⟩ := D
  exact ⟨L, rv, pb, e, D.later k⟩

theorem made2 : madeCells (Value.int .i64 0).cells ((2 : Int).toNat * 1) = #[.int .i64 0, .int .i64 0] := by
  apply Array.ext
  · simp [madeCells]
  · intro i h1 h2
    have : i < 2 := by simpa using h2
    rcases i with _ | _ | i
    · simp [madeCells, Value.cells]
    · simp [madeCells, Value.cells]
    · omega

theorem sizeOk_open (rs : List Int) : sizeOk (4 : Nat) (2 : Nat) (openR rs) = true := by
  obtain ⟨h1, h2, h3⟩ := openR_ok rs
  have e : fitB (openR rs) = true := by
    simp only [fitB, Bool.and_eq_true, decide_eq_true_eq, List.all_eq_true]
    exact ⟨⟨h1, by omega⟩, fun x hx => by have := h3 x hx; simp only [rateOk, Bool.and_eq_true, decide_eq_true_eq]; exact this⟩
  unfold sizeOk
  rw [e]
  rfl

set_option maxHeartbeats 8000000 in
set_option maxRecDepth 1000000 in
theorem opened_rest {w W : World} {rs : List Int} (S : OpA w (picks (rs.take 3)) W) {a : Act} (hf : OFr w a) (Post : Ending → World → Prop) (hP : ∀ W' x, Desk w (openR rs) x 4000000 (4000 * (openR rs).length) (4000 * (openR rs).length) (openM (openR rs)) W' → Post (.returned (.pointer (some ⟨w.heap.size, 0, none⟩))) W') :
    Code.wp Try.prog ((Try.f9.body.bind afterLoop).getD .skip) (bodyPost Try.prog Try.f9 Post) a W := by
  have HS := hide S
  have HP := hide hP
  clear S hP
  obtain ⟨u0, hf⟩ := hf
  obtain ⟨u1, hf⟩ := hf
  obtain ⟨u4, hf⟩ := hf
  obtain ⟨u5, hf⟩ := hf
  obtain ⟨u6, hf⟩ := hf
  obtain ⟨u7, hf⟩ := hf
  obtain ⟨u8, hf⟩ := hf
  obtain ⟨u9, hf⟩ := hf
  obtain ⟨u10, hf⟩ := hf
  obtain ⟨u11, hf⟩ := hf
  obtain ⟨u12, hf⟩ := hf
  obtain ⟨u13, hf⟩ := hf
  obtain ⟨u14, hf⟩ := hf
  obtain ⟨u15, hf⟩ := hf
  obtain ⟨u16, hf⟩ := hf
  obtain ⟨u17, hf⟩ := hf
  obtain ⟨u18, hf⟩ := hf
  obtain ⟨u19, hf⟩ := hf
  obtain ⟨u20, hf⟩ := hf
  obtain ⟨u21, hf⟩ := hf
  obtain ⟨u22, hf⟩ := hf
  obtain ⟨u23, hf⟩ := hf
  obtain ⟨u24, hf⟩ := hf
  obtain ⟨u25, hf⟩ := hf
  obtain ⟨u26, hf⟩ := hf
  obtain ⟨u27, hf⟩ := hf
  obtain ⟨u28, hf⟩ := hf
  obtain ⟨u29, hf⟩ := hf
  obtain ⟨u30, hf⟩ := hf
  obtain ⟨u31, hf⟩ := hf
  obtain ⟨u32, hf⟩ := hf
  obtain ⟨u33, hf⟩ := hf
  obtain ⟨u34, hf⟩ := hf
  obtain ⟨u35, hf⟩ := hf
  obtain ⟨u36, hf⟩ := hf
  obtain ⟨u37, hf⟩ := hf
  obtain ⟨u38, hf⟩ := hf
  obtain ⟨u39, hf⟩ := hf
  obtain ⟨u40, hf⟩ := hf
  obtain ⟨u41, hf⟩ := hf
  obtain ⟨u42, hf⟩ := hf
  obtain ⟨u43, hf⟩ := hf
  obtain ⟨u44, hf⟩ := hf
  obtain ⟨u45, hf⟩ := hf
  obtain ⟨u46, hf⟩ := hf
  obtain ⟨u47, hf⟩ := hf
  obtain ⟨u48, hf⟩ := hf
  obtain ⟨u49, hf⟩ := hf
  obtain ⟨u50, hf⟩ := hf
  obtain ⟨u51, hf⟩ := hf
  obtain ⟨u52, hf⟩ := hf
  obtain ⟨u53, hf⟩ := hf
  obtain ⟨u54, hf⟩ := hf
  obtain ⟨u55, hf⟩ := hf
  obtain ⟨u56, hf⟩ := hf
  obtain ⟨u57, hf⟩ := hf
  obtain ⟨u58, hf⟩ := hf
  obtain ⟨u59, hf⟩ := hf
  obtain ⟨u60, hf⟩ := hf
  obtain ⟨u61, hf⟩ := hf
  obtain ⟨u62, hf⟩ := hf
  obtain ⟨u63, hf⟩ := hf
  obtain ⟨u64, hf⟩ := hf
  obtain ⟨u65, hf⟩ := hf
  obtain ⟨u66, hf⟩ := hf
  obtain ⟨u67, hf⟩ := hf
  obtain ⟨u68, hf⟩ := hf
  obtain ⟨u69, hf⟩ := hf
  obtain ⟨u70, hf⟩ := hf
  obtain ⟨u71, hf⟩ := hf
  obtain ⟨u72, hf⟩ := hf
  obtain ⟨u73, hf⟩ := hf
  obtain ⟨u74, hf⟩ := hf
  obtain ⟨u75, hf⟩ := hf
  obtain ⟨u76, hf⟩ := hf
  obtain ⟨u77, hf⟩ := hf
  obtain ⟨u78, hf⟩ := hf
  obtain ⟨u79, hf⟩ := hf
  obtain ⟨u80, hf⟩ := hf
  obtain ⟨u81, hf⟩ := hf
  obtain ⟨u82, hf⟩ := hf
  obtain ⟨u83, hf⟩ := hf
  obtain ⟨u84, hf⟩ := hf
  obtain ⟨u85, hf⟩ := hf
  obtain ⟨u86, hf⟩ := hf
  obtain ⟨u87, hf⟩ := hf
  obtain ⟨u88, hf⟩ := hf
  obtain ⟨u89, hf⟩ := hf
  obtain ⟨u90, hf⟩ := hf
  obtain ⟨u91, hf⟩ := hf
  obtain ⟨u92, hf⟩ := hf
  obtain ⟨u93, hf⟩ := hf
  obtain ⟨u94, hf⟩ := hf
  obtain ⟨u95, hf⟩ := hf
  obtain ⟨u96, hf⟩ := hf
  obtain ⟨u97, hf⟩ := hf
  obtain ⟨u98, hf⟩ := hf
  obtain ⟨u99, hf⟩ := hf
  obtain ⟨u100, hf⟩ := hf
  obtain ⟨u101, hf⟩ := hf
  obtain ⟨u102, hf⟩ := hf
  obtain ⟨u103, hf⟩ := hf
  obtain ⟨u104, hf⟩ := hf
  obtain ⟨u105, hf⟩ := hf
  obtain ⟨u106, hf⟩ := hf
  obtain ⟨u107, hf⟩ := hf
  obtain ⟨u108, hf⟩ := hf
  obtain ⟨u109, hf⟩ := hf
  obtain ⟨u110, hf⟩ := hf
  obtain ⟨u111, hf⟩ := hf
  obtain ⟨u112, hf⟩ := hf
  obtain ⟨u113, hf⟩ := hf
  obtain ⟨u114, hf⟩ := hf
  obtain ⟨u115, hf⟩ := hf
  obtain ⟨u116, hf⟩ := hf
  obtain ⟨u117, hf⟩ := hf
  obtain ⟨u118, hf⟩ := hf
  obtain ⟨u119, hf⟩ := hf
  obtain ⟨u120, hf⟩ := hf
  obtain ⟨u121, hf⟩ := hf
  obtain ⟨u122, hf⟩ := hf
  obtain ⟨u123, hf⟩ := hf
  obtain ⟨u124, hf⟩ := hf
  obtain ⟨u125, hf⟩ := hf
  obtain ⟨u126, hf⟩ := hf
  obtain ⟨u127, hf⟩ := hf
  obtain ⟨u128, hf⟩ := hf
  obtain ⟨u129, hf⟩ := hf
  obtain ⟨u130, hf⟩ := hf
  obtain ⟨u131, hf⟩ := hf
  obtain ⟨u132, hf⟩ := hf
  obtain ⟨u133, hf⟩ := hf
  obtain ⟨u134, hf⟩ := hf
  obtain ⟨u135, hf⟩ := hf
  obtain ⟨u136, hf⟩ := hf
  obtain ⟨u137, hf⟩ := hf
  obtain ⟨u138, hf⟩ := hf
  obtain ⟨u139, hf⟩ := hf
  obtain ⟨u140, hf⟩ := hf
  obtain ⟨u141, hf⟩ := hf
  obtain ⟨u142, hf⟩ := hf
  obtain ⟨u143, hf⟩ := hf
  obtain ⟨u144, hf⟩ := hf
  obtain ⟨u145, hf⟩ := hf
  obtain ⟨u146, hf⟩ := hf
  obtain ⟨u147, hf⟩ := hf
  obtain ⟨u148, hf⟩ := hf
  obtain ⟨u149, hf⟩ := hf
  obtain ⟨u150, hf⟩ := hf
  obtain ⟨u151, hf⟩ := hf
  obtain ⟨u152, hf⟩ := hf
  obtain ⟨u153, hf⟩ := hf
  obtain ⟨u154, hf⟩ := hf
  obtain ⟨u155, hf⟩ := hf
  obtain ⟨u156, hf⟩ := hf
  obtain ⟨u157, hf⟩ := hf
  obtain ⟨u158, hf⟩ := hf
  obtain ⟨u159, hf⟩ := hf
  obtain ⟨u160, hf⟩ := hf
  obtain ⟨u161, hf⟩ := hf
  obtain ⟨u162, hf⟩ := hf
  obtain ⟨u163, hf⟩ := hf
  obtain ⟨u164, hf⟩ := hf
  obtain ⟨u165, hf⟩ := hf
  obtain ⟨u166, hf⟩ := hf
  obtain ⟨u167, hf⟩ := hf
  obtain ⟨u168, hf⟩ := hf
  obtain ⟨u169, hf⟩ := hf
  obtain ⟨u170, hf⟩ := hf
  obtain ⟨u171, hf⟩ := hf
  obtain ⟨u172, hf⟩ := hf
  obtain ⟨u173, hf⟩ := hf
  obtain ⟨u174, hf⟩ := hf
  obtain ⟨u175, hf⟩ := hf
  obtain ⟨u176, hf⟩ := hf
  obtain ⟨u177, hf⟩ := hf
  obtain ⟨u178, hf⟩ := hf
  obtain ⟨u179, hf⟩ := hf
  subst hf
  conv => arg 2; whnf
  dsimp only
  go_step
  go_cut [3] from 44 to 53 (fun v3 wx => v3 = .pointer (some ⟨w.heap.size, 0, none⟩) ∧ OpB w (openR rs) wx)
  case first =>
    by_cases hx : picks (rs.take 3) = []
    · have S := HS.out
      rw [hx] at S
      have HB := hide S.thirty
      obtain ⟨sa, sc, hv, hown⟩ := S.v
      simp only [List.length_nil] at hv
      obtain ⟨c3, f3⟩ := hv
      have lz : w.heap.size < W.heap.size := World.block_lt_of_cell? W _ c3
      have HX := hide (openR_nil hx)
      clear S hown hx
      go_wp2
      go_meet
      exact ⟨rfl, by rw [HX.out]; exact HB.out⟩
    · have S := HS.out
      have HB := hide (S.rates hx)
      have HX := hide (openR_cons hx)
      have hl : 0 < (picks (rs.take 3)).length := List.length_pos_iff.2 hx
      obtain ⟨sa, sc, hv, hown⟩ := S.v
      obtain ⟨c3, f3⟩ := hv
      generalize picks (rs.take 3) = xs at *
      have e0 : ((xs.length : Int) == 0) = false := beq_eq_false_iff_ne.2 (by omega)
      clear S hown hx
      go_wp2
      go_meet
      exact ⟨rfl, by rw [HX.out]; exact HB.out⟩
  case rest =>
    obtain ⟨rfl, B⟩ := hcut
    clear HS
    obtain ⟨ok1, ok3, okr⟩ := openR_ok rs
    have HZ := hide (sizeOk_open rs)
    obtain ⟨rb, cap, r1, r2, r3, r4⟩ := B.rr
    have c3 := r1.cell
    have HN := hide (new_yes wc 4 2 (.slice (some ⟨rb, 0, none⟩) (openR rs).length cap) (openR rs) (.inr ⟨rb, 0, cap, rfl, fun i x hx => by rw [Nat.zero_add]; exact r4 i x hx⟩) HZ.out)
    have HB := hide B
    clear B r1 r4
    generalize openR rs = ro at *
    obtain ⟨i0, hi0, hz0, hz1, hz2⟩ := info_parts infoInt
    have hmk : ∀ u : World, (Instr.makeSlice 24 (.int .i64 2) (.int .i64 2)).run Try.prog u = .ok (.slice (some ⟨u.heap.size, 0, none⟩) 2 2) (u.alloc (.cells #[.int .i64 0, .int .i64 0] 3)) := fun u => by
      have h := run_make (P := Try.prog) u 24 3 i0 _ Try.underlying24 hi0 hz0 .i64 .i64 2 2 (by decide) (Int.le_refl _) (by rw [hz2]; decide) (by decide)
      rw [hz1] at h
      exact h.trans (by rw [made2]; rfl)
    clear hi0 hz0 hz1 hz2
    go_wp2_with fail
    refine HN.out.mono ?_
    rintro e w1 ⟨L, rfl, R1, k1, f1, g1, g2⟩
    have n : ∀ b, ¬ non b := fun _ f => f
    obtain ⟨d0, e0⟩ := HB.out.c0.kep k1 (n _)
    obtain ⟨d5, e5⟩ := HB.out.c5.kep k1 (n _)
    have lz : w.heap.size < w1.heap.size := World.block_lt_of_cell? w1 _ d0
    have HR := hide R1
    have HK := hide k1
    have HF := hide (And.intro f1 (And.intro g1 g2))
    clear R1 k1 f1 g1 g2 HN n c3
    go_wp2
    have D0 : Desk w ro L.x 0 0 0 (newM 4 2 ro) (((w1.setCell ⟨w.heap.size, 0, none⟩ (.pointer (some ⟨L.x, 0, none⟩))).setCell ⟨w.heap.size, 5, none⟩ (.slice (some ⟨w1.heap.size, 0, none⟩) 2 2)).alloc (.cells #[.int .i64 0, .int .i64 0] 3)) := by
      have k2 : Kep (fun b => b = w.heap.size) w1 ((w1.setCell ⟨w.heap.size, 0, none⟩ (.pointer (some ⟨L.x, 0, none⟩))).setCell ⟨w.heap.size, 5, none⟩ (.slice (some ⟨w1.heap.size, 0, none⟩) 2 2)) := ((Kep.refl (fun b => b = w.heap.size) w1).setCell (p := ⟨w.heap.size, 0, none⟩) (.inl rfl) _).setCell (p := ⟨w.heap.size, 5, none⟩) (.inl rfl) _
      have k3 : Kep non ((w1.setCell ⟨w.heap.size, 0, none⟩ (.pointer (some ⟨L.x, 0, none⟩))).setCell ⟨w.heap.size, 5, none⟩ (.slice (some ⟨w1.heap.size, 0, none⟩) 2 2)) _ := (Kep.refl non _).alloc (.cells #[.int .i64 0, .int .i64 0] 3)
      have ne : ∀ i j : Nat, i ≠ j → (⟨w.heap.size, i, none⟩ : Addr) ≠ ⟨w.heap.size, j, none⟩ := fun i j hj q => by injection q with _ q _; exact hj q
      have hb := heap_alloc_new ((w1.setCell ⟨w.heap.size, 0, none⟩ (.pointer (some ⟨L.x, 0, none⟩))).setCell ⟨w.heap.size, 5, none⟩ (.slice (some ⟨w1.heap.size, 0, none⟩) 2 2)) (.cells #[.int .i64 0, .int .i64 0] 3)
      have hz : ((w1.setCell ⟨w.heap.size, 0, none⟩ (.pointer (some ⟨L.x, 0, none⟩))).setCell ⟨w.heap.size, 5, none⟩ (.slice (some ⟨w1.heap.size, 0, none⟩) 2 2)).heap.size = w1.heap.size := by simp
      rw [hz] at hb
      exact HB.out.desk HR.out HK.out HF.out.1 HF.out.2 ok1 (k2.trans k3.none) ((((Own.mk d0 e0).set rfl _).set_other (ne 0 5 (by decide)) rfl rfl _).kep k3 (fun f => f)) ((((Own.mk d5 e5).set_other (ne 5 0 (by decide)) rfl rfl _).set rfl _).kep k3 (fun f => f)) (fun j u h0 h5 h => ((h.set_other (ne j 0 h0) rfl rfl _).set_other (ne j 5 h5) rfl rfl _).kep k3 (fun f => f)) hb
    have I0 : (newM 4 2 ro).Inv 2000000 := newM_inv ok1 (by omega) okr (by decide)
    generalize ((w1.setCell ⟨w.heap.size, 0, none⟩ (.pointer (some ⟨L.x, 0, none⟩))).setCell ⟨w.heap.size, 5, none⟩ (.slice (some ⟨w1.heap.size, 0, none⟩) 2 2)).alloc (.cells #[.int .i64 0, .int .i64 0] 3) = W0 at *
    generalize L.x = x at *
    rw [← filM_start ro] at D0 I0
    have HD0 := hide (And.intro D0 I0)
    clear D0 I0 HR HK HF HB d0 e0 d5 e5 lz hmk r2 r3
    rename_i Kx hKx
    have HKx := hide (show ∀ a W', PFr w x a → Desk w ro x 4000000 (4000 * ro.length) (4000 * ro.length) (fulM ro) W' → (fulM ro).Inv 2000000 → Kx a W' from fun a W' f D I => hKx a W' (opened_end ok1 okr I D f Post (fun W'' D' => HP.out W'' x D')))
    clear hKx HP
    go_loopw [7] (fun i wr => ∃ t : Nat, t ≤ 4 ∧ i = .int .i64 t ∧ Desk w ro x (1000000 * t) (1000 * (ro.length * t)) (1000 * (ro.length * t)) (filM ro t 0 0 False) wr ∧ (filM ro t 0 0 False).Inv 2000000) (fun i _ => 4 - (intOf i).toNat)
    case atStart => exact ⟨0, by omega, rfl, HD0.out.1, HD0.out.2⟩
    case round =>
      clear HD0
      obtain ⟨t, ht, rfl, D, I⟩ := hrel
      by_cases hlt : t < 4
      · obtain ⟨Lt, rv, pb, ex, D⟩ := D
        obtain ⟨y1, y2⟩ := filM_pay (rs := ro) hlt
        have HPay := hide (progPay_any wr Lt _ 2000000 t 1000000 D.R I.ok)
        rw [y1, y2, ex] at HPay
        have HI := hide (show (filM ro t 0 0 True).Inv 2000000 by rw [← y2]; exact I.pay t 1000000)
        have HD := hide D
        have HX := hide ex
        clear D I y1 y2 ex HKx
        go_wp2_with fail
        refine HPay.out.mono ?_
        rintro e w2 ⟨rfl, P⟩
        obtain ⟨L2, e2, D2⟩ := Desk.pp HD.out P
        obtain ⟨c4, f4⟩ := D2.c4
        have c3 := D2.c3.cell
        obtain ⟨rb, cap, erv, r1, r2, r3, r4, r5⟩ := D2.rr
        have HD2 := hide (show Desk w ro x (1000000 * t + 1000000) (1000 * (ro.length * t)) (1000 * (ro.length * t)) (filM ro t 0 0 True) (w2.setCell ⟨w.heap.size, 4, none⟩ (.int .i64 (1000000 * t + 1000000))) from ⟨L2, rv, pb, e2.trans HX.out, D2.setMon _⟩)
        clear P D2 HD HPay r1 r2 r3 r4 r5 erv rb cap c3
        go_wp2
        generalize w2.setCell ⟨w.heap.size, 4, none⟩ (.int .i64 (1000000 * t + 1000000)) = W1 at *
        clear c4 f4
        go_loopw [9] (fun i wr => ∃ h : Nat, h ≤ ro.length ∧ i = .int .i64 h ∧ Desk w ro x (1000000 * t + 1000000) (1000 * (ro.length * t + h)) (1000 * (ro.length * t + h)) (filM ro t h 0 True) wr ∧ (filM ro t h 0 True).Inv 2000000) (fun i _ => ro.length - (intOf i).toNat)
        case atStart => exact ⟨0, by omega, rfl, by simpa using HD2.out, HI.out⟩
        case round =>
          clear HD2 HI
          obtain ⟨h, hh, rfl, D, I⟩ := hrel
          obtain ⟨L3, rv3, pb3, e3, D⟩ := D
          obtain ⟨rb, cap, erv, _⟩ := D.rr
          have c3 := D.c3.cell
          rw [erv] at c3
          have HD := hide (show Desk w ro x (1000000 * t + 1000000) (1000 * (ro.length * t + h)) (1000 * (ro.length * t + h)) (filM ro t h 0 True) wr from ⟨L3, rv3, pb3, e3, D⟩)
          have HI := hide I
          clear D I erv e3
          by_cases hlh : h < ro.length
          · have hlh' : (h : Int) < (ro.length : Int) := by omega
            go_wp2
            clear c3
            go_loopw [10] (fun i wr => ∃ g : Nat, g ≤ 2 ∧ i = .int .i64 g ∧ Desk w ro x (1000000 * t + 1000000) (1000 * (ro.length * t + h) + if 0 < g then 1000 else 0) (1000 * (ro.length * t + h) + if 1 < g then 1000 else 0) (filM ro t h g True) wr ∧ (filM ro t h g True).Inv 2000000) (fun i _ => 2 - (intOf i).toNat)
            case atStart => exact ⟨0, by omega, rfl, by simpa using HD.out, HI.out⟩
            case round =>
              clear HD HI
              obtain ⟨g, hg, rfl, D, I⟩ := hrel
              by_cases hlg : g < 2
              · obtain ⟨L3, rv3, pb3, e3, D⟩ := D
                obtain ⟨y1, y2⟩ := filM_bring (rs := ro) hlt hlh ok3 hlg
                have HBr := hide (progBring_any wr L3 _ 2000000 t h g 1000 D.R I.ok)
                rw [y1, y2, e3] at HBr
                have HI := hide (show (filM ro t h (g + 1) True).Inv 2000000 by rw [← y2]; exact I.bring t h g 1000)
                have HD := hide D
                have HX := hide e3
                clear D I y1 y2 e3
                go_wp2_with fail
                refine HBr.out.mono ?_
                rintro e w3 ⟨rfl, P⟩
                obtain ⟨L4, e4, D4⟩ := Desk.pp HD.out P
                have HD4 := hide (And.intro (e4.trans HX.out) D4)
                have c5 := D4.c5.cell
                have hp : ∃ v, Own w3 ⟨pb3, g, none⟩ (.int .i64 v) ∧ Desk w ro x (1000000 * t + 1000000) (1000 * (ro.length * t + h) + if 0 < g + 1 then 1000 else 0) (1000 * (ro.length * t + h) + if 1 < g + 1 then 1000 else 0) (filM ro t h (g + 1) True) (w3.setCell ⟨pb3, g, none⟩ (.int .i64 (v + 1000))) ∧ (0 ≤ v ∧ v ≤ 100000) := by
                  have b1 : 0 ≤ (ro.length : Int) * t ∧ (ro.length : Int) * t ≤ 12 := by
                    have := mul_le' (a := (ro.length : Int)) (b := t) (A := 3) (B := 4) (by omega) (by omega) (by omega) (by omega)
                    exact ⟨this.1, by omega⟩
                  rcases g with _ | _ | g
                  · refine ⟨_, D4.q0, ⟨L4, rv3, pb3, e4.trans HX.out, ?_⟩, by simp; omega⟩
                    have k := D4.setP 0 (by decide) (1000 * (ro.length * t + h) + (if 0 < 0 then 1000 else 0) + 1000)
                    simpa using k
                  · refine ⟨_, D4.q1, ⟨L4, rv3, pb3, e4.trans HX.out, ?_⟩, by simp; omega⟩
                    have k := D4.setP 1 (by decide) (1000 * (ro.length * t + h) + (if 1 < 0 + 1 then 1000 else 0) + 1000)
                    simpa using k
                  · omega
                obtain ⟨v, ⟨cv, fv⟩, hv, hv0, hv1⟩ := hp
                have HV := hide hv
                have hlg' : (g : Int) < 2 := by omega
                clear hv P D4 HBr HD HX e4 HD4
                go_wp2
                go_region
                all_goals go_wp2
                all_goals exact ⟨⟨g + 1, by omega, by go_num, HV.out.later ((Kep.refl _ _).drew), HI.out⟩, by simp [intOf]; omega⟩
              · have hg2 : g = 2 := by omega
                have HV := hide (show Desk w ro x (1000000 * t + 1000000) (1000 * (ro.length * t + ((h + 1 : Nat) : Int))) (1000 * (ro.length * t + ((h + 1 : Nat) : Int))) (filM ro t (h + 1) 0 True) wr by
                  rw [hg2, filM_hall] at D
                  have e : (1000 : Int) * (ro.length * t + ((h + 1 : Nat) : Int)) = 1000 * (ro.length * t + h) + 1000 := by rw [Int.natCast_add]; omega
                  rw [e]
                  simpa using D)
                have HI := hide (show (filM ro t (h + 1) 0 True).Inv 2000000 by rw [← filM_hall, ← hg2]; exact I)
                have hlg' : ¬ (g : Int) < 2 := by omega
                clear D I hg2 hlg
                go_wp2
                exact ⟨⟨h + 1, by omega, by go_num, HV.out, HI.out⟩, by simp [intOf]; omega⟩
          · have hh2 : h = ro.length := by omega
            have HV := hide (show Desk w ro x (1000000 * ((t + 1 : Nat) : Int)) (1000 * (ro.length * ((t + 1 : Nat) : Int))) (1000 * (ro.length * ((t + 1 : Nat) : Int))) (filM ro (t + 1) 0 0 False) wr by
              have D := HD.out
              rw [hh2, filM_trader] at D
              have e : (1000 : Int) * (ro.length * ((t + 1 : Nat) : Int)) = 1000 * (ro.length * t + ro.length) := by rw [Int.natCast_add, Int.mul_add]; simp
              have e2 : (1000000 : Int) * ((t + 1 : Nat) : Int) = 1000000 * t + 1000000 := by rw [Int.natCast_add]; omega
              rw [e, e2]
              exact D)
            have HI2 := hide (show (filM ro (t + 1) 0 0 False).Inv 2000000 by rw [← filM_trader, ← hh2]; exact HI.out)
            have hlh' : ¬ (h : Int) < (ro.length : Int) := by omega
            clear HD HI hh2 hlh
            go_wp2
            exact ⟨⟨t + 1, by omega, by go_num, HV.out, HI2.out⟩, by simp [intOf]; omega⟩
      · have ht4 : t = 4 := by omega
        have HV := hide (show Desk w ro x 4000000 (4000 * ro.length) (4000 * ro.length) (fulM ro) wr ∧ (fulM ro).Inv 2000000 by
          rw [ht4] at D I
          have e : (1000 : Int) * (ro.length * ((4 : Nat) : Int)) = 4000 * ro.length := by omega
          rw [e] at D
          exact ⟨D, I⟩)
        have hlt' : ¬ (t : Int) < 4 := by omega
        clear D I ht4 hlt
        go_wp2
        exact HKx.out _ _ ⟨_, _, _, _, _, _, _, _, _, _, _, _, _, _, _, _, _, _, _, _, _, _, _, _, _, _, _, _, _, _, _, _, _, _, _, _, _, _, _, _, _, _, _, _, _, _, _, _, _, _, _, _, _, _, _, _, _, _, _, _, _, _, _, _, _, _, _, _, _, _, _, _, _, _, _, _, _, _, _, _, _, _, _, _, _, _, _, _, _, _, _, _, _, _, _, _, _, _, _, _, _, _, _, _, _, _, _, _, _, _, _, _, _, _, _, _, _, _, _, _, _, _, _, _, _, _, _, _, _, _, _, _, _, _, _, _, _, _, _, _, _, _, _, _, _, _, _, _, _, _, _, _, _, _, _, _, _, _, _, _, _, _, _, _, _, _, _, _, _, _, _, _, _, _, _, _, _, _, rfl⟩ HV.out.1 HV.out.2

theorem opened_any (w : World) (v : Value) (rs : List Int) (hr : IntsAt w v rs) (hi : ∀ x ∈ rs, i64R x) :
    Calls Try.prog 9 #[v] w fun e w' => e = .returned (.pointer (some ⟨w.heap.size, 0, none⟩)) ∧ ∃ x, Desk w (openR rs) x 4000000 (4000 * (openR rs).length) (4000 * (openR rs).length) (openM (openR rs)) w' :=
  opened_head w v rs hr hi _ fun _ _ f S => opened_rest S f _ fun _ x D => ⟨rfl, x, D⟩

theorem openM_inv (rs : List Int) : (openM (openR rs)).Inv 2000000 ∧ Opn (openR rs) (openM (openR rs)) := by
  obtain ⟨h1, h3, hr⟩ := openR_ok rs
  have I0 := newM_inv h1 (by omega) hr (N := 2000000) (by decide)
  have I1 : ∀ t, t ≤ 4 → (filM (openR rs) t 0 0 False).Inv 2000000 := by
    intro t
    induction t with
    | zero => intro _; rw [filM_start]; exact I0
    | succ t ih =>
      intro ht
      have k0 := ih (by omega)
      have k1 : (filM (openR rs) t 0 0 True).Inv 2000000 := by rw [← (filM_pay (rs := openR rs) (t := t) (by omega)).2]; exact k0.pay _ _
      have k2 : ∀ h, h ≤ (openR rs).length → (filM (openR rs) t h 0 True).Inv 2000000 := by
        intro h
        induction h with
        | zero => intro _; exact k1
        | succ h ih2 =>
          intro hh
          have a0 := ih2 (by omega)
          have a1 : (filM (openR rs) t h 1 True).Inv 2000000 := by rw [← (filM_bring (rs := openR rs) (t := t) (h := h) (g := 0) (by omega) (by omega) h3 (by omega)).2]; exact a0.bring _ _ _ _
          have a2 : (filM (openR rs) t h 2 True).Inv 2000000 := by rw [← (filM_bring (rs := openR rs) (t := t) (h := h) (g := 1) (by omega) (by omega) h3 (by omega)).2]; exact a1.bring _ _ _ _
          rw [← filM_hall]; exact a2
      rw [← filM_trader]; exact k2 _ (Nat.le_refl _)
  have I4 : (fulM (openR rs)).Inv 2000000 := I1 4 (Nat.le_refl _)
  have I5 : (soldM (openR rs)).Inv 2000000 := by rw [← (sold h1).2.2.2]; exact I4.place (by show (0 : Int) + 1 ≤ 2000000; decide) _
  exact ⟨I5.place (by show (1 : Int) + 1 ≤ 2000000; decide) _, (bought h1 hr).2.2.2⟩
end

end Go.Proofs.Ytcfoobhihhndjaa
